/- The walk of CodecReads. -/
import Derived.Test.YtcdaecnpohfchaaDoorCp
namespace Go.Proofs.YtcdaecnpohfchaaDoor
open Go.RowKit Go.Sha

/-- A slice of numbers in memory. -/
def NAt (w : World) (v : Value) (ks : List Int) : Prop := ∃ ad cap pb po, v = .slice ad ks.length cap ∧ (0 < ks.length → ad = some ⟨pb, po, none⟩) ∧ ∀ j, j < ks.length → w.cell? ⟨pb, po + j, none⟩ = some (.int .i64 (ks[j]?.getD 0))
theorem NAt.ext {w w' : World} {v : Value} {l : List Int} (h : NAt w v l) (he : Ext w w') : NAt w' v l := by
  obtain ⟨ad, cap, pb, po, h1, h2, h3⟩ := h
  refine ⟨ad, cap, pb, po, h1, h2, fun j hj => ?_⟩
  have c0 := h3 j hj
  rw [← c0]; exact Below.cell he (p := ⟨pb, po + j, none⟩) (World.block_lt_of_cell? w _ c0)
theorem rNum_err (er : Int) (h : er ≠ 0) : rNum [] er = (0, [], er) := by rw [rNum, if_pos h]
theorem rWord_err (er : Int) (h : er ≠ 0) : rWord [] er = (0, [], er) := by rw [rWord, if_pos h]
theorem rCnt_err (er : Int) (most : Nat) (h : er ≠ 0) : rCnt [] er most = ([], [], er) := by unfold rCnt; rw [rNum_err er h, if_pos h]
theorem rCnt_zero (l : List Int) (most : Nat) : (rCnt l 0 most).2.2 = 0 ∨ ∃ f, f ≠ 0 ∧ rCnt l 0 most = ([], [], f) := by
  unfold rCnt
  split
  · exact Or.inr ⟨_, by assumption, rfl⟩
  · split
    · exact Or.inr ⟨2, by decide, rfl⟩
    · split
      · exact Or.inr ⟨3, by decide, rfl⟩
      · exact Or.inl rfl
theorem rCnt_byt (l : List Int) (most : Nat) (hb : Byt l) : Byt (rCnt l 0 most).2.1 ∧ (rCnt l 0 most).2.1.length ≤ l.length := by
  have h1 := rNum_byt l 0 hb
  have h2 : (rNum l 0).2.1.length ≤ l.length := by
    unfold rNum
    repeat' split
    all_goals simp
  have hn : Byt ([] : List Int) := fun x hx => by simp at hx
  unfold rCnt
  split
  · exact ⟨hn, by simp⟩
  · split
    · exact ⟨hn, by simp⟩
    · split
      · exact ⟨hn, by simp⟩
      · exact ⟨h1.drop _, by simp only [List.length_drop]; omega⟩
/-- What is left, while it is read. -/
def InvQ (w : World) (K g : Nat) (left e i : Value) (wr : World) : Prop :=
  ∃ (k : Nat) (lf : List Int) (er : Int), k ≤ K ∧ i = .int .i64 k ∧ e = .int .i64 er ∧ Src w left lf w.heap.size ∧ Byt lf ∧ lf.length ≤ 300 ∧ (er = 0 → RSt wr g lf 0) ∧ (er ≠ 0 → RSt wr g [] er) ∧ Ext w wr
theorem invQ_err {w w' : World} {K g k : Nat} {left : Value} {lf : List Int} {er : Int} (hk : k < K) (hs : Src w left lf w.heap.size) (hb : Byt lf) (hl : lf.length ≤ 300) (hr : RSt w' g [] er) (h0 : er ≠ 0) (he : Ext w w') : InvQ w K g left (.int .i64 er) (.int .i64 ((k + 1 : Nat) : Int)) w' :=
  ⟨k + 1, lf, er, by omega, rfl, rfl, hs, hb, hl, fun h => absurd h h0, fun _ => hr, he⟩
theorem invQ_ok {w w' : World} {K g k : Nat} {left : Value} {lf : List Int} (hk : k < K) (hs : Src w left lf w.heap.size) (hb : Byt lf) (hl : lf.length ≤ 300) (hr : RSt w' g lf 0) (he : Ext w w') : InvQ w K g left (.int .i64 0) (.int .i64 ((k + 1 : Nat) : Int)) w' :=
  ⟨k + 1, lf, 0, by omega, rfl, rfl, hs, hb, hl, fun _ => hr, fun h => absurd rfl h, he⟩
/-- The great number, the last byte first. -/
def wAcc (l : List Int) (p : Nat) : Int := leN ((l.take 8).drop (8 - p))
theorem wAcc_zero (l : List Int) (h : 8 ≤ l.length) : wAcc l 0 = 0 := by
  unfold wAcc; rw [List.drop_of_length_le (by rw [List.length_take]; omega)]; rfl
theorem wAcc_full (l : List Int) : wAcc l 8 = leN (l.take 8) := by unfold wAcc; simp
theorem wAcc_step (l : List Int) (p : Nat) (h : 8 ≤ l.length) (hp : p < 8) (hb : Byt l) (x : Int) (hx : x = l[7 - p]?.getD 0) : bits .or .u64 (IntKind.u64.wrap (wAcc l p * 256)) x = wAcc l (p + 1) := by
  have hx1 := hb.get (7 - p) (by omega)
  rw [← hx] at hx1
  have ht : (l.take 8).length = 8 := by rw [List.length_take]; omega
  have hd : (l.take 8).drop (8 - (p + 1)) = x :: (l.take 8).drop (8 - p) := by
    rw [List.drop_eq_getElem_cons (by omega), show 8 - (p + 1) + 1 = 8 - p by omega]
    congr 1
    rw [hx, List.getElem_take, List.getElem?_eq_getElem (by omega)]
    simp only [show 8 - (p + 1) = 7 - p by omega]; rfl
  have hr := leN_range ((l.take 8).drop (8 - p)) ((hb.take 8).drop _)
  have hlen : ((l.take 8).drop (8 - p)).length = p := by rw [List.length_drop, ht]; omega
  rw [hlen] at hr
  have hW : wAcc l (p + 1) = x + wAcc l p * 256 := by
    unfold wAcc; rw [hd, leN]; omega
  have h1 : 0 ≤ wAcc l p ∧ wAcc l p < 256 ^ p := hr
  have h2 : (256 : Int) ^ p ≤ 72057594037927936 := by
    have : p = 0 ∨ p = 1 ∨ p = 2 ∨ p = 3 ∨ p = 4 ∨ p = 5 ∨ p = 6 ∨ p = 7 := by omega
    rcases this with h | h | h | h | h | h | h | h <;> rw [h] <;> decide
  rw [hW, IntWalk.u64_in _ (by omega), bits_or_comm]
  exact or_apart x (wAcc l p) 8 (by omega) h1.1 (by omega)
def InvY (w : World) (l : List Int) (n i : Value) (wr : World) : Prop := ∃ p : Nat, p ≤ 8 ∧ n = .int .u64 (wAcc l p) ∧ i = .int .i64 (7 - (p : Int)) ∧ wr = w

theorem sdrop4 {w : World} {ad : Option Addr} {lf : List Int} {LF cap b : Nat} (h : LF = lf.length) (hs : Src w (.slice ad LF cap) lf b) (h4 : 4 ≤ LF) : Src w (.slice (Option.map (fun x => x.add 4) ad) (LF - 4) (cap - 4)) (lf.drop 4) b := by
  subst h; exact src_back hs h4
theorem sdrop40 {w : World} {ad : Option Addr} {lf : List Int} {LF cap b : Nat} (h : LF = lf.length) (hs : Src w (.slice ad LF cap) lf b) (hc : cap = 4) : Src w (.slice ad (LF - 4) 0) (lf.drop 4) b := by
  subst h; exact src_back0 hs hc
theorem sdrop8 {w : World} {ad : Option Addr} {lf : List Int} {LF cap b : Nat} (h : LF = lf.length) (hs : Src w (.slice ad LF cap) lf b) (h8 : 8 ≤ LF) : Src w (.slice (Option.map (fun x => x.add 8) ad) (LF - 8) (cap - 8)) (lf.drop 8) b := by
  subst h; exact src_back hs h8
theorem sdrop80 {w : World} {ad : Option Addr} {lf : List Int} {LF cap b : Nat} (h : LF = lf.length) (hs : Src w (.slice ad LF cap) lf b) (hc : cap = 8) : Src w (.slice ad (LF - 8) 0) (lf.drop 8) b := by
  subst h; exact src_back0 hs hc
theorem srcCells {w : World} {ad : Option Addr} {lf : List Int} {L cap b : Nat} (hs : Src w (.slice ad L cap) lf b) : 0 < lf.length → ∃ sb so, ad = some ⟨sb, so, none⟩ ∧ ∀ j, j < lf.length → w.cell? ⟨sb, so + j, none⟩ = some (.int .u8 (lf[j]?.getD 0)) := fun h0 => by
  obtain ⟨ad', cap', sb, so, e, x2, x3, x4, x5, x6⟩ := hs
  injection e with e1 _ e3
  subst e1
  exact ⟨sb, so, x3 h0, x5⟩
set_option maxHeartbeats 8000000 in
set_option maxRecDepth 100000 in
theorem reads_in (v u : Value) (lb ks : List Int) (M : Nat) (w : World) (hv : Src w v lb w.heap.size) (hbv : Byt lb) (hu : NAt w u ks) (h1 : lb.length ≤ 300) (h2 : ks.length ≤ 60) (h3 : M ≤ 1048576) : Calls Tryd.prog 4 #[v, u, .int .i64 (M : Int)] w fun e w' => e = .returned (.bool true) ∧ Ext w w' := by
  obtain ⟨adv, capv, rfl⟩ := hv.len
  obtain ⟨adu, capu, kb, ko, rfl, hu2, hu3⟩ := hu
  obtain ⟨K, hK⟩ : ∃ K, K = ks.length := ⟨_, rfl⟩
  obtain ⟨LB, hLB⟩ : ∃ LB, LB = lb.length := ⟨_, rfl⟩
  have H1 := Lib.hid h1
  rw [← hLB] at h1 ⊢
  rw [← hK] at h2 hu2 hu3 ⊢
  have d1 : decide ((300 : Int) < (LB : Int)) = false := decide_eq_false (by omega)
  have d2 : decide ((60 : Int) < (K : Int)) = false := decide_eq_false (by omega)
  have d4 : decide ((1048576 : Int) < (M : Int)) = false := decide_eq_false (by omega)
  have m0 : (0 : Int) ≤ (M : Int) := by omega
  have HV := Lib.hid hv; clear hv
  have HBv := Lib.hid hbv; clear hbv
  have HU2 := Lib.hid hu2; clear hu2
  have HU3 := Lib.hid hu3; clear hu3
  have HLB := Lib.hid hLB; clear hLB
  have HK := Lib.hid hK; clear hK
  go_enter Tryd.func4, Tryd.ntmps4
  go_wp2_with fail
  have s0 := HV.out
  rw [← HLB.out] at s0
  refine (newr_any _ lb _ w s0 (by have := H1.out; omega)).mono ?_
  rintro e w1 ⟨g, rfl, e1, r1, hg⟩
  have R1 := Lib.hid r1
  have hgw := hg
  clear r1 s0 d1 d2 d4 hg
  go_wp2
  go_loopw [8, 9, 10] (fun left e i wr => InvQ w K g left e i wr) (fun _ _ i _ => K - (intOf i).toNat)
  case atStart => exact ⟨0, lb, 0, by omega, rfl, rfl, by rw [HLB.out]; exact HV.out, HBv.out, H1.out, fun _ => R1.out, fun h => absurd rfl h, e1⟩
  case round =>
    clear R1 e1
    obtain ⟨k, lf, er, hk, rfl, rfl, hs, hb, hl3, hr0, hrE, he⟩ := hrel
    obtain ⟨ad, cap, rfl⟩ := hs.len
    obtain ⟨LF, hLF⟩ : ∃ LF, LF = lf.length := ⟨_, rfl⟩
    rw [← hLF] at hs hl3 ⊢
    have hcap : LF ≤ cap := by obtain ⟨_, _, _, _, q1, q2, _⟩ := hs; injection q1 with _ q3 q4; omega
    have HLF := Lib.hid hLF; clear hLF
    have Hs := Lib.hid hs; clear hs
    have Hb := Lib.hid hb; clear hb
    have Hl3 := Lib.hid (show lf.length ≤ 300 by rw [← HLF.out]; exact hl3)
    have HR0 := Lib.hid hr0; clear hr0
    have HRE := Lib.hid hrE; clear hrE
    by_cases hlt : k < K
    · have eu := HU2.out (by omega)
      subst eu
      have cK : wr.cell? ⟨kb, ko + k, none⟩ = some (.int .i64 (ks[k]?.getD 0)) := by
        have c0 := HU3.out k hlt
        rw [← c0]; exact Below.cell he (p := ⟨kb, ko + k, none⟩) (World.block_lt_of_cell? w _ c0)
      generalize ks[k]?.getD 0 = x at cK
      have i0 : (0 : Int) ≤ (k : Int) := by omega
      have i1 : (k : Int) < (K : Int) := by omega
      go_wp2_with fail
      refine (round_any x 4 wr (by omega) (by omega)).mono ?_
      rintro e w' ⟨⟨c, rfl, hc, hcm⟩, rfl⟩
      have Hcm := Lib.hid hcm; clear hcm
      have hc4 : c = 0 ∨ c = 1 ∨ c = 2 ∨ c = 3 := by omega
      clear hc
      rcases hc4 with rfl | rfl | rfl | rfl
      · go_wp2_with fail
        have sN := Hs.out.now he
        rw [HLF.out] at sN
        have hgn := getn_any _ lf _ wr sN Hb.out (by have := Hl3.out; omega)
        rw [← HLF.out] at hgn
        refine hgn.mono ?_
        rintro e w1 ⟨rfl, e1⟩
        clear sN hgn
        by_cases h0 : er = 0
        · subst h0
          have R1 := Lib.hid ((HR0.out rfl).below e1)
          rcases rNum_cases lf Hb.out with ⟨hg0, hr0⟩ | ⟨n, hg0, hn, hr0, h4⟩
          · rw [hg0]
            have Hr0 := Lib.hid hr0; clear hr0 hg0
            go_wp2_with fail
            refine (num_any g lf 0 w1 R1.out Hb.out).mono ?_
            rw [Hr0.out]
            rintro e w2 ⟨rfl, o2, r2⟩
            have R9 := Lib.hid r2; clear r2
            go_wp2_with fail
            refine (left_any g _ _ w2 R9.out).mono ?_
            rintro e w' ⟨rfl, rfl⟩
            go_wp2_with fail
            refine (err_any g _ _ w2 R9.out).mono ?_
            rintro e w' ⟨rfl, rfl⟩
            go_wp2
            exact ⟨invQ_err hlt (HLF.out ▸ Hs.out) Hb.out Hl3.out R9.out (by decide) (ext_only (he.trans e1) o2 hgw), by simp [intOf]; omega⟩
          · rw [hg0]
            have Hr0 := Lib.hid hr0; clear hr0 hg0
            have n0 : decide ((n : Int) < 0) = false := decide_eq_false (by omega)
            rw [← HLF.out] at h4
            have j0 : (4 : Int) ≤ (LF : Int) := by omega
            have j1 : (4 : Int) ≤ (cap : Int) := by omega
            go_wp2_with fail
            all_goals
              refine (num_any g lf 0 w1 R1.out Hb.out).mono ?_
              rw [Hr0.out]
              rintro e w2 ⟨rfl, o2, r2⟩
              have R9 := Lib.hid r2; clear r2
              have hdl : (lf.drop 4).length = LF - 4 := by rw [List.length_drop, ← HLF.out]
              have Hdl := Lib.hid hdl; clear hdl
              go_wp2_with fail
              refine (left_any g _ _ w2 R9.out).mono ?_
              rintro e w' ⟨rfl, rfl⟩
              rw [Hdl.out]
              go_wp2_with fail
              refine (err_any g _ _ w2 R9.out).mono ?_
              rintro e w' ⟨rfl, rfl⟩
              go_wp2
              exact ⟨invQ_ok hlt (by first | exact sdrop4 HLF.out Hs.out h4 | exact sdrop40 HLF.out Hs.out (by omega)) (Hb.out.drop 4) (by rw [Hdl.out]; omega) R9.out (ext_only (he.trans e1) o2 hgw), by simp [intOf]; omega⟩
        · have tE : (er == 0) = false := beq_eq_false_iff_ne.2 h0
          have HE0 := Lib.hid h0; clear h0
          have R1 := Lib.hid ((HRE.out HE0.out).below e1)
          go_wp2_with fail
          refine (num_any g [] er w1 R1.out (fun x hx => by simp at hx)).mono ?_
          rw [rNum_err er HE0.out]
          rintro e w2 ⟨rfl, o2, r2⟩
          have R9 := Lib.hid r2; clear r2
          go_wp2_with fail
          refine (left_any g _ _ w2 R9.out).mono ?_
          rintro e w' ⟨rfl, rfl⟩
          go_wp2_with fail
          refine (err_any g _ _ w2 R9.out).mono ?_
          rintro e w' ⟨rfl, rfl⟩
          go_wp2
          exact ⟨invQ_err hlt (HLF.out ▸ Hs.out) Hb.out Hl3.out R9.out HE0.out (ext_only (he.trans e1) o2 hgw), by simp [intOf]; omega⟩
      · by_cases h0 : er = 0
        · subst h0
          have R1 := Lib.hid (HR0.out rfl)
          by_cases h8 : LF < 8
          · have t8 : decide ((LF : Int) < 8) = true := decide_eq_true (by omega)
            have hr0 : rWord lf 0 = (0, [], 2) := by rw [rWord, if_neg (by simp), if_pos (by rw [← HLF.out]; exact h8)]
            have Hr0 := Lib.hid hr0; clear hr0
            go_wp2_with fail
            refine (word_any g lf 0 wr R1.out Hb.out).mono ?_
            rw [Hr0.out]
            rintro e w2 ⟨rfl, o2, r2⟩
            have R9 := Lib.hid r2; clear r2
            go_wp2_with fail
            refine (left_any g _ _ w2 R9.out).mono ?_
            rintro e w' ⟨rfl, rfl⟩
            go_wp2_with fail
            refine (err_any g _ _ w2 R9.out).mono ?_
            rintro e w' ⟨rfl, rfl⟩
            go_wp2
            exact ⟨invQ_err hlt (HLF.out ▸ Hs.out) Hb.out Hl3.out R9.out (by decide) (ext_only he o2 hgw), by simp [intOf]; omega⟩
          · have t8 : decide ((LF : Int) < 8) = false := decide_eq_false (by omega)
            have hr0 : rWord lf 0 = (leN (lf.take 8), lf.drop 8, 0) := by rw [rWord, if_neg (by simp), if_neg (by rw [← HLF.out]; exact h8)]
            have Hr0 := Lib.hid hr0; clear hr0
            have H8 := Lib.hid (show 8 ≤ lf.length by rw [← HLF.out]; omega)
            have Hcell := Lib.hid (srcCells (Hs.out.now he))
            have Had := Lib.hid (Hcell.out (by have := H8.out; omega))
            obtain ⟨sb, so, had, hcells⟩ := Had.out
            subst had
            have HC := Lib.hid hcells; clear hcells Had Hcell
            go_wp2
            go_loopw [13, 14] (fun n i wr' => InvY wr lf n i wr') (fun _ i _ => (intOf i + 1).toNat)
            case atStart => exact ⟨0, by omega, by rw [wAcc_zero lf H8.out], rfl, rfl⟩
            case round =>
              obtain ⟨p, hp, rfl, rfl, rfl⟩ := hrel
              by_cases hp8 : p < 8
              · obtain ⟨q, hq⟩ : ∃ q : Nat, q = 7 - p := ⟨_, rfl⟩
                have hqi : (7 : Int) - (p : Int) = (q : Int) := by omega
                rw [hqi]
                have cq := HC.out q (by have := H8.out; omega)
                have hx1 := Hb.out.get q (by have := H8.out; omega)
                have hst := wAcc_step lf p H8.out hp8 Hb.out (lf[q]?.getD 0) (by rw [hq])
                generalize lf[q]?.getD 0 = y at *
                have Hst := Lib.hid hst; clear hst
                have Hq := Lib.hid hq; clear hq
                have Hqi := Lib.hid hqi; clear hqi
                have j0 : (0 : Int) ≤ (q : Int) := by omega
                have j1 : (q : Int) < (LF : Int) := by have := Hq.out; omega
                go_wp2
                exact ⟨⟨p + 1, by omega, by rw [← Hst.out], by congr 1; have := Hqi.out; omega, rfl⟩, by first | (simp [intOf]; done) | (simp [intOf]; omega)⟩
              · obtain rfl : p = 8 := by omega
                rw [wAcc_full]
                have j0 : (8 : Int) ≤ (LF : Int) := by omega
                have j1 : (8 : Int) ≤ (cap : Int) := by omega
                go_wp2_with fail
                all_goals
                  refine (word_any g lf 0 _ R1.out Hb.out).mono ?_
                  rw [Hr0.out]
                  rintro e w2 ⟨rfl, o2, r2⟩
                  have R9 := Lib.hid r2; clear r2
                  have hdl : (lf.drop 8).length = LF - 8 := by rw [List.length_drop, ← HLF.out]
                  have Hdl := Lib.hid hdl; clear hdl
                  go_wp2_with fail
                  refine (left_any g _ _ w2 R9.out).mono ?_
                  rintro e w' ⟨rfl, rfl⟩
                  rw [Hdl.out]
                  go_wp2_with fail
                  refine (err_any g _ _ w2 R9.out).mono ?_
                  rintro e w' ⟨rfl, rfl⟩
                  go_wp2
                  exact ⟨invQ_ok hlt (by first | exact sdrop8 HLF.out Hs.out (by have := H8.out; omega) | exact sdrop80 HLF.out Hs.out (by omega)) (Hb.out.drop 8) (by rw [Hdl.out]; omega) R9.out (ext_only he o2 hgw), by simp [intOf]; omega⟩
        · have tE : (er == 0) = false := beq_eq_false_iff_ne.2 h0
          have HE0 := Lib.hid h0; clear h0
          have R1 := Lib.hid (HRE.out HE0.out)
          go_wp2_with fail
          refine (word_any g [] er wr R1.out (fun x hx => by simp at hx)).mono ?_
          rw [rWord_err er HE0.out]
          rintro e w2 ⟨rfl, o2, r2⟩
          have R9 := Lib.hid r2; clear r2
          go_wp2_with fail
          refine (left_any g _ _ w2 R9.out).mono ?_
          rintro e w' ⟨rfl, rfl⟩
          go_wp2_with fail
          refine (err_any g _ _ w2 R9.out).mono ?_
          rintro e w' ⟨rfl, rfl⟩
          go_wp2
          exact ⟨invQ_err hlt (HLF.out ▸ Hs.out) Hb.out Hl3.out R9.out HE0.out (ext_only he o2 hgw), by simp [intOf]; omega⟩
      · by_cases h0 : er = 0
        · subst h0
          have R1 := Lib.hid (HR0.out rfl)
          go_wp2_with fail
          have sN := Hs.out.now he
          rw [HLF.out] at sN
          have hgn := getb_any _ lf _ M wr sN Hb.out (by have := Hl3.out; omega)
          rw [← HLF.out] at hgn
          refine hgn.mono ?_
          rintro e w1 ⟨v1, v2, rfl, e1, hv12⟩
          have R2 := Lib.hid (R1.out.below e1)
          have cK1 : w1.cell? ⟨kb, ko + k, none⟩ = some (.int .i64 x) := by rw [← cK]; exact Below.cell e1 (p := ⟨kb, ko + k, none⟩) (World.block_lt_of_cell? wr _ cK)
          have hbb := rCnt_byt lf M Hb.out
          rcases rCnt_zero lf M with hz | ⟨f, hf, hz⟩
          · generalize hRR : rCnt lf 0 M = RR at *
            obtain ⟨m1, m2, f⟩ := RR
            · simp only at hz hv12 hbb ⊢
              subst hz
              have HRR := Lib.hid hRR
              have S12 := hv12 w w.heap.size Hs.out
              have S1 := Lib.hid S12.1
              have S2 := Lib.hid S12.2
              obtain ⟨ad2, cap2, ev2⟩ := S12.2.len
              subst ev2
              have Hbb := Lib.hid hbb
              clear sN hgn hv12 S12 hRR hbb
              obtain ⟨L2, hL2⟩ : ∃ L2, L2 = m2.length := ⟨_, rfl⟩
              rw [← hL2] at S2 ⊢
              have HL2 := Lib.hid hL2; clear hL2
              go_wp2_with fail
              refine (round_any x 4 w1 (by omega) (by omega)).mono ?_
              rintro e w' ⟨⟨c2, rfl, hc2, hcm2⟩, rfl⟩
              obtain rfl : c2 = 2 := by have := Hcm.out; omega
              clear hc2 hcm2
              go_wp2_with fail
              refine (rbytes_any g lf 0 M w1 R2.out Hb.out (by omega)).mono ?_
              rw [HRR.out]
              rintro e w2 ⟨v7, rfl, o2, r2, s7⟩
              have cv7 := conv_src (P := Tryd.prog) 25 9 5 Tryd.underlying25 Tryd.underlying5 Tryd.underlying9 s7
              have cvw := conv_src (P := Tryd.prog) 25 9 5 Tryd.underlying25 Tryd.underlying5 Tryd.underlying9 (S1.out.now (ext_only (he.trans e1) o2 hgw))
              have R9 := Lib.hid r2; clear r2 s7
              go_wp2_with fail
              refine (left_any g _ _ w2 R9.out).mono ?_
              rintro e w' ⟨rfl, rfl⟩
              rw [← HL2.out]
              go_wp2_with fail
              refine (err_any g _ _ w2 R9.out).mono ?_
              rintro e w' ⟨rfl, rfl⟩
              go_wp2
              exact ⟨invQ_ok hlt (HL2.out ▸ S2.out) Hbb.out.1 (Nat.le_trans Hbb.out.2 Hl3.out) R9.out (ext_only (he.trans e1) o2 hgw), by simp [intOf]; omega⟩
          · have HRR := Lib.hid hz
            rw [hz]
            have Hf := Lib.hid hf
            have tE : (f == 0) = false := beq_eq_false_iff_ne.2 hf
            clear sN hgn hv12 hbb hz hf
            go_wp2_with fail
            refine (round_any x 4 w1 (by omega) (by omega)).mono ?_
            rintro e w' ⟨⟨c2, rfl, hc2, hcm2⟩, rfl⟩
            obtain rfl : c2 = 2 := by have := Hcm.out; omega
            clear hc2 hcm2
            go_wp2_with fail
            refine (rbytes_any g lf 0 M w1 R2.out Hb.out (by omega)).mono ?_
            rw [HRR.out]
            rintro e w2 ⟨v7, rfl, o2, r2, s7⟩
            have cv7 := conv_src (P := Tryd.prog) 25 9 5 Tryd.underlying25 Tryd.underlying5 Tryd.underlying9 s7
            have cvw := conv_src (P := Tryd.prog) 25 9 5 Tryd.underlying25 Tryd.underlying5 Tryd.underlying9 (Src.nil w2 w2.heap.size)
            have R9 := Lib.hid r2; clear r2 s7
            go_wp2_with fail
            refine (left_any g _ _ w2 R9.out).mono ?_
            rintro e w' ⟨rfl, rfl⟩
            go_wp2_with fail
            refine (err_any g _ _ w2 R9.out).mono ?_
            rintro e w' ⟨rfl, rfl⟩
            go_wp2
            exact ⟨invQ_err hlt (HLF.out ▸ Hs.out) Hb.out Hl3.out R9.out Hf.out (ext_only (he.trans e1) o2 hgw), by simp [intOf]; omega⟩
        · have tE : (er == 0) = false := beq_eq_false_iff_ne.2 h0
          have HE0 := Lib.hid h0; clear h0
          have R1 := Lib.hid (HRE.out HE0.out)
          go_wp2_with fail
          refine (round_any x 4 wr (by omega) (by omega)).mono ?_
          rintro e w' ⟨⟨c2, rfl, hc2, hcm2⟩, rfl⟩
          obtain rfl : c2 = 2 := by have := Hcm.out; omega
          clear hc2 hcm2
          go_wp2_with fail
          refine (rbytes_any g [] er M wr R1.out (fun x hx => by simp at hx) (by omega)).mono ?_
          rw [rCnt_err er M HE0.out]
          rintro e w2 ⟨v7, rfl, o2, r2, s7⟩
          have cv7 := conv_src (P := Tryd.prog) 25 9 5 Tryd.underlying25 Tryd.underlying5 Tryd.underlying9 s7
          have cvw := conv_src (P := Tryd.prog) 25 9 5 Tryd.underlying25 Tryd.underlying5 Tryd.underlying9 (Src.nil w2 w2.heap.size)
          have R9 := Lib.hid r2; clear r2 s7
          go_wp2_with fail
          refine (left_any g _ _ w2 R9.out).mono ?_
          rintro e w' ⟨rfl, rfl⟩
          go_wp2_with fail
          refine (err_any g _ _ w2 R9.out).mono ?_
          rintro e w' ⟨rfl, rfl⟩
          go_wp2
          exact ⟨invQ_err hlt (HLF.out ▸ Hs.out) Hb.out Hl3.out R9.out HE0.out (ext_only he o2 hgw), by simp [intOf]; omega⟩
      · by_cases h0 : er = 0
        · subst h0
          have R1 := Lib.hid (HR0.out rfl)
          go_wp2_with fail
          have sN := Hs.out.now he
          rw [HLF.out] at sN
          have hgn := getb_any _ lf _ M wr sN Hb.out (by have := Hl3.out; omega)
          rw [← HLF.out] at hgn
          refine hgn.mono ?_
          rintro e w1 ⟨v1, v2, rfl, e1, hv12⟩
          have R2 := Lib.hid (R1.out.below e1)
          have cK1 : w1.cell? ⟨kb, ko + k, none⟩ = some (.int .i64 x) := by rw [← cK]; exact Below.cell e1 (p := ⟨kb, ko + k, none⟩) (World.block_lt_of_cell? wr _ cK)
          have hbb := rCnt_byt lf M Hb.out
          rcases rCnt_zero lf M with hz | ⟨f, hf, hz⟩
          · generalize hRR : rCnt lf 0 M = RR at *
            obtain ⟨m1, m2, f⟩ := RR
            · simp only at hz hv12 hbb ⊢
              subst hz
              have HRR := Lib.hid hRR
              have S12 := hv12 w w.heap.size Hs.out
              have S1 := Lib.hid S12.1
              have S2 := Lib.hid S12.2
              obtain ⟨ad2, cap2, ev2⟩ := S12.2.len
              subst ev2
              have Hbb := Lib.hid hbb
              clear sN hgn hv12 S12 hRR hbb
              obtain ⟨L2, hL2⟩ : ∃ L2, L2 = m2.length := ⟨_, rfl⟩
              rw [← hL2] at S2 ⊢
              have HL2 := Lib.hid hL2; clear hL2
              go_wp2_with fail
              refine (round_any x 4 w1 (by omega) (by omega)).mono ?_
              rintro e w' ⟨⟨c2, rfl, hc2, hcm2⟩, rfl⟩
              obtain rfl : c2 = 3 := by have := Hcm.out; omega
              clear hc2 hcm2
              go_wp2_with fail
              refine (text_any g lf 0 M w1 R2.out Hb.out).mono ?_
              rw [HRR.out]
              rintro e w2 ⟨rfl, o2, r2⟩
              have cvw := conv_src (P := Tryd.prog) 25 9 5 Tryd.underlying25 Tryd.underlying5 Tryd.underlying9 (S1.out.now (ext_only (he.trans e1) o2 hgw))
              have R9 := Lib.hid r2; clear r2
              go_wp2_with fail
              refine (left_any g _ _ w2 R9.out).mono ?_
              rintro e w' ⟨rfl, rfl⟩
              rw [← HL2.out]
              go_wp2_with fail
              refine (err_any g _ _ w2 R9.out).mono ?_
              rintro e w' ⟨rfl, rfl⟩
              go_wp2
              exact ⟨invQ_ok hlt (HL2.out ▸ S2.out) Hbb.out.1 (Nat.le_trans Hbb.out.2 Hl3.out) R9.out (ext_only (he.trans e1) o2 hgw), by simp [intOf]; omega⟩
          · have HRR := Lib.hid hz
            rw [hz]
            have Hf := Lib.hid hf
            have tE : (f == 0) = false := beq_eq_false_iff_ne.2 hf
            clear sN hgn hv12 hbb hz hf
            go_wp2_with fail
            refine (round_any x 4 w1 (by omega) (by omega)).mono ?_
            rintro e w' ⟨⟨c2, rfl, hc2, hcm2⟩, rfl⟩
            obtain rfl : c2 = 3 := by have := Hcm.out; omega
            clear hc2 hcm2
            go_wp2_with fail
            refine (text_any g lf 0 M w1 R2.out Hb.out).mono ?_
            rw [HRR.out]
            rintro e w2 ⟨rfl, o2, r2⟩
            have cvw := conv_src (P := Tryd.prog) 25 9 5 Tryd.underlying25 Tryd.underlying5 Tryd.underlying9 (Src.nil w2 w2.heap.size)
            have R9 := Lib.hid r2; clear r2
            go_wp2_with fail
            refine (left_any g _ _ w2 R9.out).mono ?_
            rintro e w' ⟨rfl, rfl⟩
            go_wp2_with fail
            refine (err_any g _ _ w2 R9.out).mono ?_
            rintro e w' ⟨rfl, rfl⟩
            go_wp2
            exact ⟨invQ_err hlt (HLF.out ▸ Hs.out) Hb.out Hl3.out R9.out Hf.out (ext_only (he.trans e1) o2 hgw), by simp [intOf]; omega⟩
        · have tE : (er == 0) = false := beq_eq_false_iff_ne.2 h0
          have HE0 := Lib.hid h0; clear h0
          have R1 := Lib.hid (HRE.out HE0.out)
          go_wp2_with fail
          refine (round_any x 4 wr (by omega) (by omega)).mono ?_
          rintro e w' ⟨⟨c2, rfl, hc2, hcm2⟩, rfl⟩
          obtain rfl : c2 = 3 := by have := Hcm.out; omega
          clear hc2 hcm2
          go_wp2_with fail
          refine (text_any g [] er M wr R1.out (fun x hx => by simp at hx)).mono ?_
          rw [rCnt_err er M HE0.out]
          rintro e w2 ⟨rfl, o2, r2⟩
          have cvw := conv_src (P := Tryd.prog) 25 9 5 Tryd.underlying25 Tryd.underlying5 Tryd.underlying9 (Src.nil w2 w2.heap.size)
          have R9 := Lib.hid r2; clear r2
          go_wp2_with fail
          refine (left_any g _ _ w2 R9.out).mono ?_
          rintro e w' ⟨rfl, rfl⟩
          go_wp2_with fail
          refine (err_any g _ _ w2 R9.out).mono ?_
          rintro e w' ⟨rfl, rfl⟩
          go_wp2
          exact ⟨invQ_err hlt (HLF.out ▸ Hs.out) Hb.out Hl3.out R9.out HE0.out (ext_only he o2 hgw), by simp [intOf]; omega⟩
    · obtain rfl : k = K := by omega
      clear hlt
      go_wp2_with fail
      refine (num_nil wr).mono ?_
      rintro e w' ⟨rfl, rfl⟩
      go_wp2_with fail
      refine (word_nil wr).mono ?_
      rintro e w' ⟨rfl, rfl⟩
      go_wp2_with fail
      refine (err_nil wr).mono ?_
      rintro e w' ⟨rfl, rfl⟩
      go_wp2_with fail
      refine (left_nil wr).mono ?_
      rintro e w' ⟨rfl, rfl⟩
      go_wp2_with fail
      refine (rbytes_nil 5 wr).mono ?_
      rintro e w2 ⟨v2, rfl, e2, o2⟩
      obtain ⟨ad2, cap2, ev2⟩ := o2.len
      rw [List.length_nil] at ev2
      subst ev2
      clear o2
      go_wp2_with fail
      refine (awake_any w2).mono ?_
      rintro e w3 ⟨rfl, e3⟩
      go_wp2
      go_ret
      exact ⟨rfl, (he.trans e2).trans e3⟩

set_option maxHeartbeats 1000000 in
set_option maxRecDepth 100000 in
theorem reads_any (v u : Value) (lb ks : List Int) (most : Int) (w : World) (hv : Src w v lb w.heap.size) (hbv : Byt lb) (hu : NAt w u ks) : Calls Tryd.prog 4 #[v, u, .int .i64 most] w fun e w' => e = .returned (.bool true) ∧ Ext w w' := by
  by_cases hA : lb.length ≤ 300 ∧ ks.length ≤ 60 ∧ 0 ≤ most ∧ most ≤ 1048576
  · obtain ⟨h1, h2, h3, h4⟩ := hA
    obtain ⟨M, rfl⟩ : ∃ M : Nat, most = (M : Int) := ⟨most.toNat, int_nat most h3⟩
    exact reads_in v u lb ks M w hv hbv hu h1 h2 (by omega)
  · obtain ⟨adv, capv, rfl⟩ := hv.len
    obtain ⟨adu, capu, kb, ko, rfl, hu2, hu3⟩ := hu
    clear hv hbv hu2 hu3
    generalize lb.length = LB at *
    generalize ks.length = K at *
    by_cases h1 : 300 < LB
    · have d1 : decide ((300 : Int) < (LB : Int)) = true := decide_eq_true (by omega)
      go_enter Tryd.func4, Tryd.ntmps4
      go_wp2_with fail
      refine (awake_any w).mono ?_
      rintro e w' ⟨rfl, e1⟩
      go_wp2
      go_ret
      exact ⟨rfl, e1⟩
    · have d1 : decide ((300 : Int) < (LB : Int)) = false := decide_eq_false (by omega)
      by_cases h2 : 60 < K
      · have d2 : decide ((60 : Int) < (K : Int)) = true := decide_eq_true (by omega)
        go_enter Tryd.func4, Tryd.ntmps4
        go_wp2_with fail
        refine (awake_any w).mono ?_
        rintro e w' ⟨rfl, e1⟩
        go_wp2
        go_ret
        exact ⟨rfl, e1⟩
      · have d2 : decide ((60 : Int) < (K : Int)) = false := decide_eq_false (by omega)
        by_cases h3 : most < 0
        · have d3 : decide (most < 0) = true := decide_eq_true h3
          go_enter Tryd.func4, Tryd.ntmps4
          go_wp2_with fail
          refine (awake_any w).mono ?_
          rintro e w' ⟨rfl, e1⟩
          go_wp2
          go_ret
          exact ⟨rfl, e1⟩
        · have d3 : decide (most < 0) = false := decide_eq_false h3
          have h4 : 1048576 < most := by omega
          have d4 : decide (1048576 < most) = true := decide_eq_true h4
          go_enter Tryd.func4, Tryd.ntmps4
          go_wp2_with fail
          refine (awake_any w).mono ?_
          rintro e w' ⟨rfl, e1⟩
          go_wp2
          go_ret
          exact ⟨rfl, e1⟩
end Go.Proofs.YtcdaecnpohfchaaDoor
