/- small: are steps looked at? -/
import Derived.Test.YtbneedmfpldpfaaGreatDoorBjM
set_option linter.unusedSimpArgs false
set_option linter.unusedVariables false
namespace Go.Proofs.YtbneedmfpldpfaaGreatDoor
open Go.RowKit Go.Pth

def InvSu (n a : Nat) (xs : List Nat) (w : World) (s0 s5 : Value) (wr : World) : Prop := ∃ j s : Nat, j ≤ n ∧ s5 = .int .i64 j ∧ s0 = .int .i64 s ∧ s = a + (xs.take j).sum ∧ s ≤ 1099511627776 ∧ w = wr
set_option maxRecDepth 100000 in
set_option maxHeartbeats 4000000 in
theorem sumk_any (a n : Nat) (xs : List Nat) (g cap : Nat) (w : World) (ha : a ≤ 1099511627776) (hn : n = xs.length) (hn10 : n ≤ 10) (hx : ∀ j (h : j < xs.length), w.cell? ⟨g, j, none⟩ = some (.int .i64 xs[j])) (hb : ∀ x ∈ xs, x ≤ 9223372036854775807) :
    Calls Tryz.prog 17 #[.int .i64 a, .slice (some ⟨g, 0, none⟩) n cap] w fun e w' => ∃ r : Nat, e = .returned (.int .i64 r) ∧ w = w' ∧ r ≤ 1099511627776 ∧ (r ≤ 1000000 → a + xs.sum = r) := by
  have CX : Hid (∀ j, j < n → ∃ x : Nat, w.cell? ⟨g, j, none⟩ = some (.int .i64 x) ∧ x ≤ 9223372036854775807 ∧ (xs.take (j + 1)).sum = (xs.take j).sum + x) := Lib.hid fun j hj => by
    have hj' : j < xs.length := by omega
    refine ⟨xs[j], hx j hj', hb _ (List.getElem_mem hj'), ?_⟩
    rw [List.take_succ_eq_append_getElem hj', List.sum_append]
    simp
  have HN := Lib.hid hn
  clear hx hb hn
  go_enter Tryz.func17, Tryz.ntmps17
  go_wp2
  go_loopw [0, 5] (fun s0 s5 wr => InvSu n a xs w s0 s5 wr) (fun _ s5 _ => n - (intOf s5).toNat)
  case atStart => exact ⟨0, a, by omega, rfl, rfl, by simp, ha, rfl⟩
  case round =>
    obtain ⟨j, s, hj, rfl, rfl, hs, hs4, rfl⟩ := hrel
    have HS := Lib.hid hs
    clear hs
    by_cases hlt : j < n
    · obtain ⟨x, cx, hx, hsum⟩ := CX.out j hlt
      have HSUM := Lib.hid hsum
      have i0 : (0 : Int) ≤ (j : Int) := by omega
      have i1 : (j : Int) < (n : Int) := by omega
      have d1 : decide (1099511627776 < s) = false := decide_eq_false (by omega)
      have hw : IntKind.i64.wrap (1099511627776 - (s : Int)) = 1099511627776 - (s : Int) := by rw [IntKind.wrap_i64]; omega
      clear hsum
      obtain ⟨bb, hbb⟩ : ∃ bb, bb = decide (1099511627776 - (s : Int) < (x : Int)) := ⟨_, rfl⟩
      by_cases hle : s + x ≤ 1099511627776
      · have d2 : decide (1099511627776 - (s : Int) < (x : Int)) = false := decide_eq_false (by omega)
        have d3 : decide ((x : Int) > 1099511627776 - (s : Int)) = false := decide_eq_false (by omega)
        clear hbb
        go_wp2
        refine ⟨⟨j + 1, s + x, by omega, by rw [Int.natCast_add]; rfl, by rw [Int.natCast_add], by rw [HS.out, HSUM.out]; omega, hle, rfl⟩, by (try simp [intOf]); omega⟩
      · have d2 : decide (1099511627776 - (s : Int) < (x : Int)) = true := decide_eq_true (by omega)
        have d3 : decide ((x : Int) > 1099511627776 - (s : Int)) = true := decide_eq_true (by omega)
        clear hbb hle
        go_wp2
        go_ret
        exact ⟨1099511627776, rfl, rfl, by omega, fun h => by omega⟩
    · obtain rfl : j = n := by omega
      have FN := Lib.hid (show a + xs.sum = s from by rw [HS.out, HN.out, List.take_length])
      clear hlt
      go_wp2
      go_ret
      exact ⟨s, rfl, rfl, hs4, fun _ => FN.out⟩
/-- A step of the law. -/
structure StV where
  kd : Int
  p : ByteArray
  t : ByteArray
  x : List Int
  ad : Option Addr
  cap : Nat
  bx : Nat
  ox : Nat
  m : Int
  y : Int
structure StAt (w : World) (b o : Nat) (s : StV) : Prop where
  c0 : w.cell? ⟨b, o, none⟩ = some (.int .i64 s.kd)
  c1 : w.cell? ⟨b, o + 1, none⟩ = some (.string s.p)
  c2 : w.cell? ⟨b, o + 2, none⟩ = some (.string s.t)
  c3 : w.cell? ⟨b, o + 3, none⟩ = some (.slice s.ad s.x.length s.cap)
  c4 : w.cell? ⟨b, o + 4, none⟩ = some (.int .i64 s.m)
  c5 : w.cell? ⟨b, o + 5, none⟩ = some (.int .u8 s.y)
theorem StAt.ext {w w' : World} {b o : Nat} {s : StV} (h : StAt w b o s) (e : Ext w w') : StAt w' b o s := ⟨e.cell h.c0, e.cell h.c1, e.cell h.c2, e.cell h.c3, e.cell h.c4, e.cell h.c5⟩
theorem StAt.chg {X : Nat → Prop} {w w' : World} {b o : Nat} {s : StV} (h : StAt w b o s) (e : Chg X w w') (hb : ¬ X b) : StAt w' b o s := ⟨e.cell h.c0 hb, e.cell h.c1 hb, e.cell h.c2 hb, e.cell h.c3 hb, e.cell h.c4 hb, e.cell h.c5 hb⟩
def Sml (s : StV) : Prop := s.p.size ≤ 1500 ∧ s.t.size ≤ 1500 ∧ s.x.length ≤ 1500
def InvSm (n : Nat) (l : List StV) (w : World) (s3 s4 : Value) (wr : World) : Prop := ∃ j s : Nat, j ≤ n ∧ s4 = .int .i64 j ∧ s3 = .int .i64 s ∧ s ≤ 1099511627776 ∧ (s ≤ 1500 → ∀ i (h : i < l.length), i < j → Sml l[i]) ∧ Ext w wr
def SmR (w : World) (l : List StV) (e : Ending) (w' : World) : Prop := ∃ r : Bool, e = .returned (.bool r) ∧ Ext w w' ∧ (r = true → l.length ≤ 60 ∧ ∀ s ∈ l, Sml s)
set_option maxRecDepth 100000 in
set_option maxHeartbeats 8000000 in
theorem small_any (l : List StV) (ad : Option Addr) (cap b o : Nat) (w : World) (had : 0 < l.length → ad = some ⟨b, o, none⟩) (hc : ∀ j (h : j < l.length), StAt w b (o + j * 6) l[j]) (hln : l.length ≤ 9223372036854775807) (hsz : ∀ s ∈ l, s.p.size ≤ 9223372036854775807 ∧ s.t.size ≤ 9223372036854775807 ∧ s.x.length ≤ 9223372036854775807) :
    Calls Tryz.prog 4 #[.slice ad l.length cap] w (SmR w l) := by
  have HC := Lib.hid (fun (wr : World) (e : Ext w wr) j (h : j < l.length) => (hc j h).ext e)
  have HSZ := Lib.hid hsz
  have HAD := Lib.hid had
  obtain ⟨n, hn⟩ : ∃ n, n = l.length := ⟨_, rfl⟩
  have HN := Lib.hid hn
  rw [← hn] at HAD hln ⊢
  clear hc hsz had hn
  go_enter Tryz.func4, Tryz.ntmps4
  go_wp2
  go_loopw [3, 4] (fun s3 s4 wr => InvSm n l w s3 s4 wr) (fun _ s4 _ => n - (intOf s4).toNat)
  case atStart => exact ⟨0, 0, by omega, rfl, rfl, by omega, fun _ i _ hi => by omega, Ext.refl _⟩
  case round =>
    obtain ⟨j, s, hj, rfl, rfl, hs4, hall, he⟩ := hrel
    have HALL := Lib.hid hall
    have HE := Lib.hid he
    clear hall
    by_cases hlt : j < n
    · by_cases h15 : s ≤ 1500
      · have hjl : j < l.length := by rw [← HN.out]; exact hlt
        have SA := HC.out wr he j hjl
        have hz := HSZ.out _ (List.getElem_mem hjl)
        have ha := HAD.out (by omega)
        subst ha
        generalize hX : l[j] = X at *
        have HX := Lib.hid hX
        clear hX
        obtain ⟨kd, p, t, x, adx, capx, bx, ox, m, y⟩ := X
        obtain ⟨c0, c1, c2, c3, c4, c5⟩ := SA
        simp only at c0 c1 c2 c3 c4 c5 hz
        obtain ⟨nx, hnx⟩ : ∃ nx, nx = x.length := ⟨_, rfl⟩
        rw [← hnx] at c3 hz
        have HNX := Lib.hid hnx
        have i0 : (0 : Int) ≤ (j : Int) := by omega
        have i1 : (j : Int) < (n : Int) := by omega
        have g1 : decide ((s : Int) ≤ 1500) = true := decide_eq_true (by omega)
        have g2 : decide (s ≤ 1500) = true := decide_eq_true h15
        obtain ⟨hz1, hz2, hz3⟩ := hz
        clear hnx h15
        by_cases hk : kd = 3 ∧ m > 2000 ∧ m ≤ 65536
        · obtain ⟨rfl, h2, h3⟩ := hk
          have d1 : decide (m > 2000) = true := decide_eq_true h2
          have d2 : decide ((2000 : Int) < m) = true := decide_eq_true h2
          have d3 : decide (m ≤ 65536) = true := decide_eq_true h3
          clear h2 h3
          go_wp2
          go_ret
          exact ⟨false, rfl, HE.out, fun h => by cases h⟩
        · have SUM := Lib.hid (fun (W : World) (g0 : Nat) (hat : At W g0 #[.int .i64 p.size, .int .i64 t.size, .int .i64 nx, .int .i64 1] 3) => sumk_any s 4 [p.size, t.size, nx, 1] g0 4 W hs4 rfl (by omega) (fun i hi => by rw [hat.cell]; match i, hi with | 0, _ => rfl | 1, _ => rfl | 2, _ => rfl | 3, _ => rfl) (fun z hz => by simp at hz; omega))
          have CL := Lib.hid (fun (W : World) (e : Ext wr W) => And.intro (e.cell c1) (And.intro (e.cell c2) (e.cell c3)))
          have key : (kd == 3) = false ∨ decide (m > 2000) = false ∨ decide (m ≤ 65536) = false := by
            by_cases a1 : kd = 3
            · by_cases a2 : m > 2000
              · exact Or.inr (Or.inr (decide_eq_false fun a3 => hk ⟨a1, a2, a3⟩))
              · exact Or.inr (Or.inl (decide_eq_false a2))
            · exact Or.inl (by simpa using a1)
          clear hk hz1 hz2 hz3
          cases q1 : kd == 3 with
          | false =>
            clear key
            go_wp2_with fail
            refine wp_region_held (S := Ext wr.drew) (by kernel_rfl) ?_
            change wpAnyH _ _ _ _ _ _ _ _ wr.drew
            have S0 : Ext wr.drew wr.drew := Ext.refl _
            have CW := Lib.hid (fun (w' : World) (hw' : Ext wr.drew w') => CL.out w' ((Ext.drew wr).trans hw'))
            have D_ := Lib.hid (HE.out.trans (Ext.drew wr))
            clear c0 c1 c2 c3 c4 c5 he
            generalize wr.drew = W0 at *
            refine takeS 0 (some 37) (.int .i64 s) rfl rfl (by kernel_rfl) (by kernel_rfl) (by kernel_rfl) (fun _ _ _ h => h) rfl S0 (fun w' hw' => by go_simp) ?_
            simp only [Act.put, List.setIfInBounds_toArray, List.set_cons_zero, List.set_cons_succ]
            refine takeS 1 (some 38) (.slice (some ⟨b, o, none⟩) n cap) rfl rfl (by kernel_rfl) (by kernel_rfl) (by kernel_rfl) (fun _ _ _ h => h) rfl S0 (fun w' hw' => by go_simp) ?_
            simp only [Act.put, List.setIfInBounds_toArray, List.set_cons_zero, List.set_cons_succ]
            refine takeS 2 (some 39) (.int .i64 j) rfl rfl (by kernel_rfl) (by kernel_rfl) (by kernel_rfl) (fun _ _ _ h => h) rfl S0 (fun w' hw' => by go_simp) ?_
            simp only [Act.put, List.setIfInBounds_toArray, List.set_cons_zero, List.set_cons_succ]
            refine takeS 3 (some 40) (.pointer (some ⟨b, o + j * 6, none⟩)) rfl rfl (by kernel_rfl) (by kernel_rfl) (by kernel_rfl) (fun _ _ _ h => h) rfl S0 (fun w' hw' => by go_simp) ?_
            simp only [Act.put, List.setIfInBounds_toArray, List.set_cons_zero, List.set_cons_succ]
            refine takeS 4 (some 41) (.pointer (some ⟨b, o + j * 6 + 1, none⟩)) rfl rfl (by kernel_rfl) (by kernel_rfl) (by kernel_rfl) (fun _ _ _ h => h) rfl S0 (fun w' hw' => by go_simp) ?_
            simp only [Act.put, List.setIfInBounds_toArray, List.set_cons_zero, List.set_cons_succ]
            refine takeS 5 (some 42) (.string p) rfl rfl (by kernel_rfl) (by kernel_rfl) (by kernel_rfl) (fun _ _ _ h => h) rfl S0 (fun w' hw' => by obtain ⟨x1, x2, x3⟩ := CW.out w' hw'; go_simp) ?_
            simp only [Act.put, List.setIfInBounds_toArray, List.set_cons_zero, List.set_cons_succ]
            refine takeS 6 (some 43) (.int .i64 p.size) rfl rfl (by kernel_rfl) (by kernel_rfl) (by kernel_rfl) (fun _ _ _ h => h) rfl S0 (fun w' hw' => by go_simp) ?_
            simp only [Act.put, List.setIfInBounds_toArray, List.set_cons_zero, List.set_cons_succ]
            refine takeS 7 (some 44) (.slice (some ⟨b, o, none⟩) n cap) rfl rfl (by kernel_rfl) (by kernel_rfl) (by kernel_rfl) (fun _ _ _ h => h) rfl S0 (fun w' hw' => by go_simp) ?_
            simp only [Act.put, List.setIfInBounds_toArray, List.set_cons_zero, List.set_cons_succ]
            refine takeS 8 (some 45) (.int .i64 j) rfl rfl (by kernel_rfl) (by kernel_rfl) (by kernel_rfl) (fun _ _ _ h => h) rfl S0 (fun w' hw' => by go_simp) ?_
            simp only [Act.put, List.setIfInBounds_toArray, List.set_cons_zero, List.set_cons_succ]
            refine takeS 9 (some 46) (.pointer (some ⟨b, o + j * 6, none⟩)) rfl rfl (by kernel_rfl) (by kernel_rfl) (by kernel_rfl) (fun _ _ _ h => h) rfl S0 (fun w' hw' => by go_simp) ?_
            simp only [Act.put, List.setIfInBounds_toArray, List.set_cons_zero, List.set_cons_succ]
            refine takeS 10 (some 47) (.pointer (some ⟨b, o + j * 6 + 2, none⟩)) rfl rfl (by kernel_rfl) (by kernel_rfl) (by kernel_rfl) (fun _ _ _ h => h) rfl S0 (fun w' hw' => by go_simp) ?_
            simp only [Act.put, List.setIfInBounds_toArray, List.set_cons_zero, List.set_cons_succ]
            refine takeS 11 (some 48) (.string t) rfl rfl (by kernel_rfl) (by kernel_rfl) (by kernel_rfl) (fun _ _ _ h => h) rfl S0 (fun w' hw' => by obtain ⟨x1, x2, x3⟩ := CW.out w' hw'; go_simp) ?_
            simp only [Act.put, List.setIfInBounds_toArray, List.set_cons_zero, List.set_cons_succ]
            refine takeS 12 (some 49) (.int .i64 t.size) rfl rfl (by kernel_rfl) (by kernel_rfl) (by kernel_rfl) (fun _ _ _ h => h) rfl S0 (fun w' hw' => by go_simp) ?_
            simp only [Act.put, List.setIfInBounds_toArray, List.set_cons_zero, List.set_cons_succ]
            refine takeS 13 (some 50) (.slice (some ⟨b, o, none⟩) n cap) rfl rfl (by kernel_rfl) (by kernel_rfl) (by kernel_rfl) (fun _ _ _ h => h) rfl S0 (fun w' hw' => by go_simp) ?_
            simp only [Act.put, List.setIfInBounds_toArray, List.set_cons_zero, List.set_cons_succ]
            refine takeS 14 (some 51) (.int .i64 j) rfl rfl (by kernel_rfl) (by kernel_rfl) (by kernel_rfl) (fun _ _ _ h => h) rfl S0 (fun w' hw' => by go_simp) ?_
            simp only [Act.put, List.setIfInBounds_toArray, List.set_cons_zero, List.set_cons_succ]
            refine takeS 15 (some 52) (.pointer (some ⟨b, o + j * 6, none⟩)) rfl rfl (by kernel_rfl) (by kernel_rfl) (by kernel_rfl) (fun _ _ _ h => h) rfl S0 (fun w' hw' => by go_simp) ?_
            simp only [Act.put, List.setIfInBounds_toArray, List.set_cons_zero, List.set_cons_succ]
            refine takeS 16 (some 53) (.pointer (some ⟨b, o + j * 6 + 3, none⟩)) rfl rfl (by kernel_rfl) (by kernel_rfl) (by kernel_rfl) (fun _ _ _ h => h) rfl S0 (fun w' hw' => by go_simp) ?_
            simp only [Act.put, List.setIfInBounds_toArray, List.set_cons_zero, List.set_cons_succ]
            refine takeS 17 (some 54) (.slice adx nx capx) rfl rfl (by kernel_rfl) (by kernel_rfl) (by kernel_rfl) (fun _ _ _ h => h) rfl S0 (fun w' hw' => by obtain ⟨x1, x2, x3⟩ := CW.out w' hw'; go_simp) ?_
            simp only [Act.put, List.setIfInBounds_toArray, List.set_cons_zero, List.set_cons_succ]
            refine takeS 18 (some 55) (.int .i64 nx) rfl rfl (by kernel_rfl) (by kernel_rfl) (by kernel_rfl) (fun _ _ _ h => h) rfl S0 (fun w' hw' => by go_simp) ?_
            simp only [Act.put, List.setIfInBounds_toArray, List.set_cons_zero, List.set_cons_succ]
            refine nextS 19 rfl (by kernel_rfl) rfl (makeR (some 56) rfl (.slice (some ⟨W0.heap.size, 0, none⟩) 4 4) (w1 := W0.alloc (.cells #[.int .i64 p.size, .int .i64 t.size, .int .i64 nx, .int .i64 1] 3)) (by go_simp) ?_)
            simp only [Act.put, List.setIfInBounds_toArray, List.set_cons_zero, List.set_cons_succ]
            have x_ : Ext W0 (W0.alloc (.cells #[.int .i64 p.size, .int .i64 t.size, .int .i64 nx, .int .i64 1] 3)) := Ext.alloc W0 _
            have SU := Lib.hid (SUM.out (W0.alloc (.cells #[.int .i64 p.size, .int .i64 t.size, .int .i64 nx, .int .i64 1] 3)) W0.heap.size (At.new W0 _ _))
            generalize W0.alloc (.cells #[.int .i64 p.size, .int .i64 t.size, .int .i64 nx, .int .i64 1] 3) = W1 at *
            generalize W0.heap.size = g0 at *
            refine ⟨x_, ?_⟩
            refine nextS 20 rfl (by kernel_rfl) rfl (callS (some 57) rfl 17 #[.int .i64 s, .slice (some ⟨g0, 0, none⟩) 4 4] (by go_simp) (fun v w' => ∃ r : Nat, v = .int .i64 r ∧ W1 = w' ∧ r ≤ 1099511627776 ∧ (r ≤ 1000000 → s + [p.size, t.size, nx, 1].sum = r)) ((SU.out).mono fun e w' he => by obtain ⟨r_, h1_, h2_⟩ := he; exact ⟨_, h1_, r_, rfl, h2_⟩) ?_)
            rintro v_ w_ ⟨r, rfl, rfl, hr1, hr2⟩
            simp only [Act.put, List.setIfInBounds_toArray, List.set_cons_zero, List.set_cons_succ]
            refine ⟨x_, ?_⟩
            refine takeS 21 (some 3) (.int .i64 r) rfl rfl (by kernel_rfl) (by kernel_rfl) (by kernel_rfl) (fun _ _ _ h => h) rfl x_ (fun w' hw' => by go_simp) ?_
            simp only [Act.put, List.setIfInBounds_toArray, List.set_cons_zero, List.set_cons_succ]
            refine wpAnyH_done (by kernel_rfl) ?_ _
            have FN := Lib.hid (show InvSm n l w (.int .i64 r) (.int .i64 ((j : Int) + 1)) W1 from ⟨j + 1, r, by omega, by rw [Int.natCast_add]; rfl, rfl, hr1, fun h i hi hij => by
              have hsum := hr2 (by omega)
              simp only [List.sum_cons, List.sum_nil] at hsum
              by_cases e : i = j
              · subst e; rw [HX.out]; exact ⟨by show p.size ≤ 1500; omega, by show t.size ≤ 1500; omega, by show x.length ≤ 1500; rw [← HNX.out]; omega⟩
              · exact HALL.out (by omega) i hi (by omega), D_.out.trans x_⟩)
            clear hr1 hr2 x_ S0
            go_wp2
            exact ⟨FN.out, by (try simp [intOf]); omega⟩
          | true =>
            cases q2 : decide (m > 2000) with
            | false =>
              have q2b : decide ((2000 : Int) < m) = false := q2
              clear key
              go_wp2_with fail
              refine wp_region_held (S := Ext wr.drew) (by kernel_rfl) ?_
              change wpAnyH _ _ _ _ _ _ _ _ wr.drew
              have S0 : Ext wr.drew wr.drew := Ext.refl _
              have CW := Lib.hid (fun (w' : World) (hw' : Ext wr.drew w') => CL.out w' ((Ext.drew wr).trans hw'))
              have D_ := Lib.hid (HE.out.trans (Ext.drew wr))
              clear c0 c1 c2 c3 c4 c5 he
              generalize wr.drew = W0 at *
              refine takeS 0 (some 37) (.int .i64 s) rfl rfl (by kernel_rfl) (by kernel_rfl) (by kernel_rfl) (fun _ _ _ h => h) rfl S0 (fun w' hw' => by go_simp) ?_
              simp only [Act.put, List.setIfInBounds_toArray, List.set_cons_zero, List.set_cons_succ]
              refine takeS 1 (some 38) (.slice (some ⟨b, o, none⟩) n cap) rfl rfl (by kernel_rfl) (by kernel_rfl) (by kernel_rfl) (fun _ _ _ h => h) rfl S0 (fun w' hw' => by go_simp) ?_
              simp only [Act.put, List.setIfInBounds_toArray, List.set_cons_zero, List.set_cons_succ]
              refine takeS 2 (some 39) (.int .i64 j) rfl rfl (by kernel_rfl) (by kernel_rfl) (by kernel_rfl) (fun _ _ _ h => h) rfl S0 (fun w' hw' => by go_simp) ?_
              simp only [Act.put, List.setIfInBounds_toArray, List.set_cons_zero, List.set_cons_succ]
              refine takeS 3 (some 40) (.pointer (some ⟨b, o + j * 6, none⟩)) rfl rfl (by kernel_rfl) (by kernel_rfl) (by kernel_rfl) (fun _ _ _ h => h) rfl S0 (fun w' hw' => by go_simp) ?_
              simp only [Act.put, List.setIfInBounds_toArray, List.set_cons_zero, List.set_cons_succ]
              refine takeS 4 (some 41) (.pointer (some ⟨b, o + j * 6 + 1, none⟩)) rfl rfl (by kernel_rfl) (by kernel_rfl) (by kernel_rfl) (fun _ _ _ h => h) rfl S0 (fun w' hw' => by go_simp) ?_
              simp only [Act.put, List.setIfInBounds_toArray, List.set_cons_zero, List.set_cons_succ]
              refine takeS 5 (some 42) (.string p) rfl rfl (by kernel_rfl) (by kernel_rfl) (by kernel_rfl) (fun _ _ _ h => h) rfl S0 (fun w' hw' => by obtain ⟨x1, x2, x3⟩ := CW.out w' hw'; go_simp) ?_
              simp only [Act.put, List.setIfInBounds_toArray, List.set_cons_zero, List.set_cons_succ]
              refine takeS 6 (some 43) (.int .i64 p.size) rfl rfl (by kernel_rfl) (by kernel_rfl) (by kernel_rfl) (fun _ _ _ h => h) rfl S0 (fun w' hw' => by go_simp) ?_
              simp only [Act.put, List.setIfInBounds_toArray, List.set_cons_zero, List.set_cons_succ]
              refine takeS 7 (some 44) (.slice (some ⟨b, o, none⟩) n cap) rfl rfl (by kernel_rfl) (by kernel_rfl) (by kernel_rfl) (fun _ _ _ h => h) rfl S0 (fun w' hw' => by go_simp) ?_
              simp only [Act.put, List.setIfInBounds_toArray, List.set_cons_zero, List.set_cons_succ]
              refine takeS 8 (some 45) (.int .i64 j) rfl rfl (by kernel_rfl) (by kernel_rfl) (by kernel_rfl) (fun _ _ _ h => h) rfl S0 (fun w' hw' => by go_simp) ?_
              simp only [Act.put, List.setIfInBounds_toArray, List.set_cons_zero, List.set_cons_succ]
              refine takeS 9 (some 46) (.pointer (some ⟨b, o + j * 6, none⟩)) rfl rfl (by kernel_rfl) (by kernel_rfl) (by kernel_rfl) (fun _ _ _ h => h) rfl S0 (fun w' hw' => by go_simp) ?_
              simp only [Act.put, List.setIfInBounds_toArray, List.set_cons_zero, List.set_cons_succ]
              refine takeS 10 (some 47) (.pointer (some ⟨b, o + j * 6 + 2, none⟩)) rfl rfl (by kernel_rfl) (by kernel_rfl) (by kernel_rfl) (fun _ _ _ h => h) rfl S0 (fun w' hw' => by go_simp) ?_
              simp only [Act.put, List.setIfInBounds_toArray, List.set_cons_zero, List.set_cons_succ]
              refine takeS 11 (some 48) (.string t) rfl rfl (by kernel_rfl) (by kernel_rfl) (by kernel_rfl) (fun _ _ _ h => h) rfl S0 (fun w' hw' => by obtain ⟨x1, x2, x3⟩ := CW.out w' hw'; go_simp) ?_
              simp only [Act.put, List.setIfInBounds_toArray, List.set_cons_zero, List.set_cons_succ]
              refine takeS 12 (some 49) (.int .i64 t.size) rfl rfl (by kernel_rfl) (by kernel_rfl) (by kernel_rfl) (fun _ _ _ h => h) rfl S0 (fun w' hw' => by go_simp) ?_
              simp only [Act.put, List.setIfInBounds_toArray, List.set_cons_zero, List.set_cons_succ]
              refine takeS 13 (some 50) (.slice (some ⟨b, o, none⟩) n cap) rfl rfl (by kernel_rfl) (by kernel_rfl) (by kernel_rfl) (fun _ _ _ h => h) rfl S0 (fun w' hw' => by go_simp) ?_
              simp only [Act.put, List.setIfInBounds_toArray, List.set_cons_zero, List.set_cons_succ]
              refine takeS 14 (some 51) (.int .i64 j) rfl rfl (by kernel_rfl) (by kernel_rfl) (by kernel_rfl) (fun _ _ _ h => h) rfl S0 (fun w' hw' => by go_simp) ?_
              simp only [Act.put, List.setIfInBounds_toArray, List.set_cons_zero, List.set_cons_succ]
              refine takeS 15 (some 52) (.pointer (some ⟨b, o + j * 6, none⟩)) rfl rfl (by kernel_rfl) (by kernel_rfl) (by kernel_rfl) (fun _ _ _ h => h) rfl S0 (fun w' hw' => by go_simp) ?_
              simp only [Act.put, List.setIfInBounds_toArray, List.set_cons_zero, List.set_cons_succ]
              refine takeS 16 (some 53) (.pointer (some ⟨b, o + j * 6 + 3, none⟩)) rfl rfl (by kernel_rfl) (by kernel_rfl) (by kernel_rfl) (fun _ _ _ h => h) rfl S0 (fun w' hw' => by go_simp) ?_
              simp only [Act.put, List.setIfInBounds_toArray, List.set_cons_zero, List.set_cons_succ]
              refine takeS 17 (some 54) (.slice adx nx capx) rfl rfl (by kernel_rfl) (by kernel_rfl) (by kernel_rfl) (fun _ _ _ h => h) rfl S0 (fun w' hw' => by obtain ⟨x1, x2, x3⟩ := CW.out w' hw'; go_simp) ?_
              simp only [Act.put, List.setIfInBounds_toArray, List.set_cons_zero, List.set_cons_succ]
              refine takeS 18 (some 55) (.int .i64 nx) rfl rfl (by kernel_rfl) (by kernel_rfl) (by kernel_rfl) (fun _ _ _ h => h) rfl S0 (fun w' hw' => by go_simp) ?_
              simp only [Act.put, List.setIfInBounds_toArray, List.set_cons_zero, List.set_cons_succ]
              refine nextS 19 rfl (by kernel_rfl) rfl (makeR (some 56) rfl (.slice (some ⟨W0.heap.size, 0, none⟩) 4 4) (w1 := W0.alloc (.cells #[.int .i64 p.size, .int .i64 t.size, .int .i64 nx, .int .i64 1] 3)) (by go_simp) ?_)
              simp only [Act.put, List.setIfInBounds_toArray, List.set_cons_zero, List.set_cons_succ]
              have x_ : Ext W0 (W0.alloc (.cells #[.int .i64 p.size, .int .i64 t.size, .int .i64 nx, .int .i64 1] 3)) := Ext.alloc W0 _
              have SU := Lib.hid (SUM.out (W0.alloc (.cells #[.int .i64 p.size, .int .i64 t.size, .int .i64 nx, .int .i64 1] 3)) W0.heap.size (At.new W0 _ _))
              generalize W0.alloc (.cells #[.int .i64 p.size, .int .i64 t.size, .int .i64 nx, .int .i64 1] 3) = W1 at *
              generalize W0.heap.size = g0 at *
              refine ⟨x_, ?_⟩
              refine nextS 20 rfl (by kernel_rfl) rfl (callS (some 57) rfl 17 #[.int .i64 s, .slice (some ⟨g0, 0, none⟩) 4 4] (by go_simp) (fun v w' => ∃ r : Nat, v = .int .i64 r ∧ W1 = w' ∧ r ≤ 1099511627776 ∧ (r ≤ 1000000 → s + [p.size, t.size, nx, 1].sum = r)) ((SU.out).mono fun e w' he => by obtain ⟨r_, h1_, h2_⟩ := he; exact ⟨_, h1_, r_, rfl, h2_⟩) ?_)
              rintro v_ w_ ⟨r, rfl, rfl, hr1, hr2⟩
              simp only [Act.put, List.setIfInBounds_toArray, List.set_cons_zero, List.set_cons_succ]
              refine ⟨x_, ?_⟩
              refine takeS 21 (some 3) (.int .i64 r) rfl rfl (by kernel_rfl) (by kernel_rfl) (by kernel_rfl) (fun _ _ _ h => h) rfl x_ (fun w' hw' => by go_simp) ?_
              simp only [Act.put, List.setIfInBounds_toArray, List.set_cons_zero, List.set_cons_succ]
              refine wpAnyH_done (by kernel_rfl) ?_ _
              have FN := Lib.hid (show InvSm n l w (.int .i64 r) (.int .i64 ((j : Int) + 1)) W1 from ⟨j + 1, r, by omega, by rw [Int.natCast_add]; rfl, rfl, hr1, fun h i hi hij => by
                have hsum := hr2 (by omega)
                simp only [List.sum_cons, List.sum_nil] at hsum
                by_cases e : i = j
                · subst e; rw [HX.out]; exact ⟨by show p.size ≤ 1500; omega, by show t.size ≤ 1500; omega, by show x.length ≤ 1500; rw [← HNX.out]; omega⟩
                · exact HALL.out (by omega) i hi (by omega), D_.out.trans x_⟩)
              clear hr1 hr2 x_ S0
              go_wp2
              exact ⟨FN.out, by (try simp [intOf]); omega⟩
            | true =>
              have q2b : decide ((2000 : Int) < m) = true := q2
              have q3 : decide (m ≤ 65536) = false := by
                rcases key with u | u | u
                · rw [q1] at u; cases u
                · rw [q2] at u; cases u
                · exact u
              clear key
              go_wp2_with fail
              refine wp_region_held (S := Ext wr.drew) (by kernel_rfl) ?_
              change wpAnyH _ _ _ _ _ _ _ _ wr.drew
              have S0 : Ext wr.drew wr.drew := Ext.refl _
              have CW := Lib.hid (fun (w' : World) (hw' : Ext wr.drew w') => CL.out w' ((Ext.drew wr).trans hw'))
              have D_ := Lib.hid (HE.out.trans (Ext.drew wr))
              clear c0 c1 c2 c3 c4 c5 he
              generalize wr.drew = W0 at *
              refine takeS 0 (some 37) (.int .i64 s) rfl rfl (by kernel_rfl) (by kernel_rfl) (by kernel_rfl) (fun _ _ _ h => h) rfl S0 (fun w' hw' => by go_simp) ?_
              simp only [Act.put, List.setIfInBounds_toArray, List.set_cons_zero, List.set_cons_succ]
              refine takeS 1 (some 38) (.slice (some ⟨b, o, none⟩) n cap) rfl rfl (by kernel_rfl) (by kernel_rfl) (by kernel_rfl) (fun _ _ _ h => h) rfl S0 (fun w' hw' => by go_simp) ?_
              simp only [Act.put, List.setIfInBounds_toArray, List.set_cons_zero, List.set_cons_succ]
              refine takeS 2 (some 39) (.int .i64 j) rfl rfl (by kernel_rfl) (by kernel_rfl) (by kernel_rfl) (fun _ _ _ h => h) rfl S0 (fun w' hw' => by go_simp) ?_
              simp only [Act.put, List.setIfInBounds_toArray, List.set_cons_zero, List.set_cons_succ]
              refine takeS 3 (some 40) (.pointer (some ⟨b, o + j * 6, none⟩)) rfl rfl (by kernel_rfl) (by kernel_rfl) (by kernel_rfl) (fun _ _ _ h => h) rfl S0 (fun w' hw' => by go_simp) ?_
              simp only [Act.put, List.setIfInBounds_toArray, List.set_cons_zero, List.set_cons_succ]
              refine takeS 4 (some 41) (.pointer (some ⟨b, o + j * 6 + 1, none⟩)) rfl rfl (by kernel_rfl) (by kernel_rfl) (by kernel_rfl) (fun _ _ _ h => h) rfl S0 (fun w' hw' => by go_simp) ?_
              simp only [Act.put, List.setIfInBounds_toArray, List.set_cons_zero, List.set_cons_succ]
              refine takeS 5 (some 42) (.string p) rfl rfl (by kernel_rfl) (by kernel_rfl) (by kernel_rfl) (fun _ _ _ h => h) rfl S0 (fun w' hw' => by obtain ⟨x1, x2, x3⟩ := CW.out w' hw'; go_simp) ?_
              simp only [Act.put, List.setIfInBounds_toArray, List.set_cons_zero, List.set_cons_succ]
              refine takeS 6 (some 43) (.int .i64 p.size) rfl rfl (by kernel_rfl) (by kernel_rfl) (by kernel_rfl) (fun _ _ _ h => h) rfl S0 (fun w' hw' => by go_simp) ?_
              simp only [Act.put, List.setIfInBounds_toArray, List.set_cons_zero, List.set_cons_succ]
              refine takeS 7 (some 44) (.slice (some ⟨b, o, none⟩) n cap) rfl rfl (by kernel_rfl) (by kernel_rfl) (by kernel_rfl) (fun _ _ _ h => h) rfl S0 (fun w' hw' => by go_simp) ?_
              simp only [Act.put, List.setIfInBounds_toArray, List.set_cons_zero, List.set_cons_succ]
              refine takeS 8 (some 45) (.int .i64 j) rfl rfl (by kernel_rfl) (by kernel_rfl) (by kernel_rfl) (fun _ _ _ h => h) rfl S0 (fun w' hw' => by go_simp) ?_
              simp only [Act.put, List.setIfInBounds_toArray, List.set_cons_zero, List.set_cons_succ]
              refine takeS 9 (some 46) (.pointer (some ⟨b, o + j * 6, none⟩)) rfl rfl (by kernel_rfl) (by kernel_rfl) (by kernel_rfl) (fun _ _ _ h => h) rfl S0 (fun w' hw' => by go_simp) ?_
              simp only [Act.put, List.setIfInBounds_toArray, List.set_cons_zero, List.set_cons_succ]
              refine takeS 10 (some 47) (.pointer (some ⟨b, o + j * 6 + 2, none⟩)) rfl rfl (by kernel_rfl) (by kernel_rfl) (by kernel_rfl) (fun _ _ _ h => h) rfl S0 (fun w' hw' => by go_simp) ?_
              simp only [Act.put, List.setIfInBounds_toArray, List.set_cons_zero, List.set_cons_succ]
              refine takeS 11 (some 48) (.string t) rfl rfl (by kernel_rfl) (by kernel_rfl) (by kernel_rfl) (fun _ _ _ h => h) rfl S0 (fun w' hw' => by obtain ⟨x1, x2, x3⟩ := CW.out w' hw'; go_simp) ?_
              simp only [Act.put, List.setIfInBounds_toArray, List.set_cons_zero, List.set_cons_succ]
              refine takeS 12 (some 49) (.int .i64 t.size) rfl rfl (by kernel_rfl) (by kernel_rfl) (by kernel_rfl) (fun _ _ _ h => h) rfl S0 (fun w' hw' => by go_simp) ?_
              simp only [Act.put, List.setIfInBounds_toArray, List.set_cons_zero, List.set_cons_succ]
              refine takeS 13 (some 50) (.slice (some ⟨b, o, none⟩) n cap) rfl rfl (by kernel_rfl) (by kernel_rfl) (by kernel_rfl) (fun _ _ _ h => h) rfl S0 (fun w' hw' => by go_simp) ?_
              simp only [Act.put, List.setIfInBounds_toArray, List.set_cons_zero, List.set_cons_succ]
              refine takeS 14 (some 51) (.int .i64 j) rfl rfl (by kernel_rfl) (by kernel_rfl) (by kernel_rfl) (fun _ _ _ h => h) rfl S0 (fun w' hw' => by go_simp) ?_
              simp only [Act.put, List.setIfInBounds_toArray, List.set_cons_zero, List.set_cons_succ]
              refine takeS 15 (some 52) (.pointer (some ⟨b, o + j * 6, none⟩)) rfl rfl (by kernel_rfl) (by kernel_rfl) (by kernel_rfl) (fun _ _ _ h => h) rfl S0 (fun w' hw' => by go_simp) ?_
              simp only [Act.put, List.setIfInBounds_toArray, List.set_cons_zero, List.set_cons_succ]
              refine takeS 16 (some 53) (.pointer (some ⟨b, o + j * 6 + 3, none⟩)) rfl rfl (by kernel_rfl) (by kernel_rfl) (by kernel_rfl) (fun _ _ _ h => h) rfl S0 (fun w' hw' => by go_simp) ?_
              simp only [Act.put, List.setIfInBounds_toArray, List.set_cons_zero, List.set_cons_succ]
              refine takeS 17 (some 54) (.slice adx nx capx) rfl rfl (by kernel_rfl) (by kernel_rfl) (by kernel_rfl) (fun _ _ _ h => h) rfl S0 (fun w' hw' => by obtain ⟨x1, x2, x3⟩ := CW.out w' hw'; go_simp) ?_
              simp only [Act.put, List.setIfInBounds_toArray, List.set_cons_zero, List.set_cons_succ]
              refine takeS 18 (some 55) (.int .i64 nx) rfl rfl (by kernel_rfl) (by kernel_rfl) (by kernel_rfl) (fun _ _ _ h => h) rfl S0 (fun w' hw' => by go_simp) ?_
              simp only [Act.put, List.setIfInBounds_toArray, List.set_cons_zero, List.set_cons_succ]
              refine nextS 19 rfl (by kernel_rfl) rfl (makeR (some 56) rfl (.slice (some ⟨W0.heap.size, 0, none⟩) 4 4) (w1 := W0.alloc (.cells #[.int .i64 p.size, .int .i64 t.size, .int .i64 nx, .int .i64 1] 3)) (by go_simp) ?_)
              simp only [Act.put, List.setIfInBounds_toArray, List.set_cons_zero, List.set_cons_succ]
              have x_ : Ext W0 (W0.alloc (.cells #[.int .i64 p.size, .int .i64 t.size, .int .i64 nx, .int .i64 1] 3)) := Ext.alloc W0 _
              have SU := Lib.hid (SUM.out (W0.alloc (.cells #[.int .i64 p.size, .int .i64 t.size, .int .i64 nx, .int .i64 1] 3)) W0.heap.size (At.new W0 _ _))
              generalize W0.alloc (.cells #[.int .i64 p.size, .int .i64 t.size, .int .i64 nx, .int .i64 1] 3) = W1 at *
              generalize W0.heap.size = g0 at *
              refine ⟨x_, ?_⟩
              refine nextS 20 rfl (by kernel_rfl) rfl (callS (some 57) rfl 17 #[.int .i64 s, .slice (some ⟨g0, 0, none⟩) 4 4] (by go_simp) (fun v w' => ∃ r : Nat, v = .int .i64 r ∧ W1 = w' ∧ r ≤ 1099511627776 ∧ (r ≤ 1000000 → s + [p.size, t.size, nx, 1].sum = r)) ((SU.out).mono fun e w' he => by obtain ⟨r_, h1_, h2_⟩ := he; exact ⟨_, h1_, r_, rfl, h2_⟩) ?_)
              rintro v_ w_ ⟨r, rfl, rfl, hr1, hr2⟩
              simp only [Act.put, List.setIfInBounds_toArray, List.set_cons_zero, List.set_cons_succ]
              refine ⟨x_, ?_⟩
              refine takeS 21 (some 3) (.int .i64 r) rfl rfl (by kernel_rfl) (by kernel_rfl) (by kernel_rfl) (fun _ _ _ h => h) rfl x_ (fun w' hw' => by go_simp) ?_
              simp only [Act.put, List.setIfInBounds_toArray, List.set_cons_zero, List.set_cons_succ]
              refine wpAnyH_done (by kernel_rfl) ?_ _
              have FN := Lib.hid (show InvSm n l w (.int .i64 r) (.int .i64 ((j : Int) + 1)) W1 from ⟨j + 1, r, by omega, by rw [Int.natCast_add]; rfl, rfl, hr1, fun h i hi hij => by
                have hsum := hr2 (by omega)
                simp only [List.sum_cons, List.sum_nil] at hsum
                by_cases e : i = j
                · subst e; rw [HX.out]; exact ⟨by show p.size ≤ 1500; omega, by show t.size ≤ 1500; omega, by show x.length ≤ 1500; rw [← HNX.out]; omega⟩
                · exact HALL.out (by omega) i hi (by omega), D_.out.trans x_⟩)
              clear hr1 hr2 x_ S0
              go_wp2
              exact ⟨FN.out, by (try simp [intOf]); omega⟩
      · have g1 : decide ((s : Int) ≤ 1500) = false := decide_eq_false (by omega)
        have g2 : decide (s ≤ 1500) = false := decide_eq_false h15
        clear h15
        go_wp2
        go_ret
        exact ⟨false, rfl, HE.out, fun h => by cases h⟩
    · obtain rfl : j = n := by omega
      by_cases h15 : j ≤ 60 ∧ s ≤ 1500
      · have FN := Lib.hid (show SmR w l (.returned (.bool true)) wr from ⟨true, rfl, HE.out, fun _ => ⟨by have := HN.out; omega, fun z hz => by
          obtain ⟨i, hi, rfl⟩ := List.mem_iff_getElem.1 hz
          exact HALL.out h15.2 i hi (by have := HN.out; omega)⟩⟩)
        obtain ⟨h60, h15⟩ := h15
        have g1 : decide ((s : Int) ≤ 1500) = true := decide_eq_true (by omega)
        have g2 : decide (s ≤ 1500) = true := decide_eq_true h15
        have g3 : decide ((j : Int) ≤ 60) = true := decide_eq_true (by omega)
        have g4 : decide (j ≤ 60) = true := decide_eq_true h60
        clear hlt h15 h60 he
        go_wp2
        go_ret
        exact FN.out
      · have FN := Lib.hid (show SmR w l (.returned (.bool false)) wr from ⟨false, rfl, HE.out, fun h => by cases h⟩)
        by_cases g1 : s ≤ 1500
        · have g2 : decide ((s : Int) ≤ 1500) = true := decide_eq_true (by omega)
          have g3 : decide (s ≤ 1500) = true := decide_eq_true g1
          have g4 : decide (j ≤ 60) = false := decide_eq_false (by omega)
          have g5 : decide ((j : Int) ≤ 60) = false := decide_eq_false (by omega)
          clear hlt h15 g1 he
          go_wp2
          go_ret
          exact FN.out
        · have g2 : decide ((s : Int) ≤ 1500) = false := decide_eq_false (by omega)
          have g3 : decide (s ≤ 1500) = false := decide_eq_false g1
          clear hlt h15 g1 he
          go_wp2
          go_ret
          exact FN.out
end Go.Proofs.YtbneedmfpldpfaaGreatDoor
