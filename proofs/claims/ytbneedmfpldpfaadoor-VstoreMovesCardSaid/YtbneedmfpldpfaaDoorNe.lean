/- Contract of a node's write. -/
import Derived.Test.YtbneedmfpldpfaaDoorNd
import Derived.Laws.IdiomCopy
namespace Go.Proofs.YtbneedmfpldpfaaDoor
open Go.RowKit Go.Pth

/-- Bytes copied into a node's bytes. -/
theorem copy_in {w : World} {a : Nat} {N : NV} {V : Vs} (h : NdIn w a N V) {g kn : Nat} (hv : V.n = .slice (some ⟨g, 0, none⟩) N.now.length kn) (off : Nat) (x : List Int) {ad : Option Addr} {cap b o : Nat} (hb : Bin w (.slice ad x.length cap) x ad cap b o) (hl : off + x.length ≤ N.now.length)
    (da : Option Addr) (dl dc : Nat) (hd : 0 < x.length → da = some ⟨g, off, none⟩) (hdl : dl = N.now.length - off) :
    (Builtin.copy_ #[22, 22] 3 #[.slice da dl dc, .slice ad x.length cap]).run Tryd.prog w = .ok (.int .i64 x.length) (w.setCells g off (bts x)) := by
  have sz : (Tryd.prog.info? 5).map (·.size) = some 1 := by kernel_rfl
  have hmin : Nat.min x.length dl = x.length := Nat.min_eq_left (by omega)
  by_cases h0 : 0 < x.length
  · rw [hd h0, hb.adr h0]
    have hr := h.n
    rw [hv] at hr
    have := run_copy_cells (P := Tryd.prog) w 22 22 3 5 g off dl dc ⟨b, o, none⟩ x.length cap (bts x) Tryd.underlying22 sz (by rw [bts_len]; exact hmin.symm) (fun j u hu => by rw [Addr.add_lit]; exact hb.cell j u hu) (fun j hj => by rw [bts_len] at hj; rw [(Row.cell hr (off + j) (by omega)).1]; simp [bts]; omega) (fun j hj => by rw [bts_len] at hj; exact (Row.cell hr (off + j) (by omega)).2) (bts_one x)
    rw [bts_len] at this
    exact this
  · have hx : x = [] := List.length_eq_zero_iff.1 (by omega)
    subst hx
    have := run_copy_none (P := Tryd.prog) w 22 22 3 5 da ad dl dc 0 cap Tryd.underlying22 sz (by simp)
    exact this

def InvW (w : World) (a : Nat) (N : NV) (f t : Nat) (V V1 : Vs) (s8 : Value) (wr : World) : Prop :=
  ∃ k : Nat, f ≤ k ∧ k ≤ t ∧ s8 = .int .i64 k ∧ NdIn wr a { N with loose := mark N.loose f k } V1 ∧ NdTo w wr a V V1
set_option maxRecDepth 100000 in
set_option maxHeartbeats 4000000 in
theorem nwrite_any (a : Nat) (N : NV) (V : Vs) (off : Nat) (x : List Int) (vb : Value) (ad : Option Addr) (cap b o : Nat) (w : World) (h : NdIn w a N V) (ok : N.Ok) (hb : Bin w vb x ad cap b o) (hnb : ¬ Foot a V b) (hsz : off + x.length ≤ 65536) :
    Calls Tryd.prog 31 #[ptr a, .int .i64 off, vb] w fun e w' => e = .returned (.tuple #[]) ∧ ∃ V', NdIn w' a (N.write off x) V' ∧ NdTo w w' a V V' := by
  obtain ⟨dn, kn, hvn, -⟩ := h.n.shape
  have hvb := hb.val
  subst hvb
  have c3 := h.c 3
  simp only [ncells, hvn] at c3
  have hlen := ok.len
  have H := Lib.hid h
  have HB := Lib.hid hb
  have OK := Lib.hid ok
  unfold ptr
  by_cases hA : min off N.now.length = off + x.length
  · have e : N.write off x = N := by unfold NV.write; rw [if_pos hA]
    rw [e]
    have hx0 : x.length = 0 := by omega
    have hof : off ≤ N.now.length := by omega
    clear e hA h hb ok
    rw [hx0]
    generalize N.now.length = L at *
    have m1 : min (off : Int) (L : Int) = (off : Int) := by omega
    go_enter Tryd.func31, Tryd.ntmps31
    go_wp2
    (try simp only [Exit.inBlock, Exit.then])
    refine bodyPost_ret (results_none rfl _ _ _) rfl ?_
    exact ⟨rfl, V, H.out, NdTo.refl _ _ _⟩
  · obtain ⟨L, hL⟩ : ∃ L, L = N.now.length := ⟨_, rfl⟩
    obtain ⟨X, hX⟩ : ∃ X, X = x.length := ⟨_, rfl⟩
    obtain ⟨F, hF⟩ : ∃ F, F = min off L := ⟨_, rfl⟩
    obtain ⟨T, hT⟩ : ∃ T, T = off + X := ⟨_, rfl⟩
    obtain ⟨M, hM⟩ : ∃ M, M = max T L := ⟨_, rfl⟩
    rw [← hX] at hsz hA ⊢
    rw [← hL] at c3 hlen hA
    have q1 : (F == T) = false := by simp; omega
    have hM2 : M ≤ 65536 := by omega
    have hT2 : T ≤ 65536 := by omega
    have hoT : off ≤ T := by omega
    have hTM : T ≤ M := by omega
    have m1 := Lib.hid (show min (off : Int) (L : Int) = (F : Int) by omega)
    have m2 := Lib.hid (show (off : Int) + (X : Int) = (T : Int) by omega)
    have m3 := Lib.hid (show max (T : Int) (L : Int) = (M : Int) by omega)
    have RZ := Lib.hid (resize_any a N V M w h ok hM2)
    unfold ptr at RZ
    have HNW : Hid (N.write off x = { N.resize M with now := splice (N.resize M).now off x, loose := mark (N.resize M).loose (F / 16) (secs T) }) := Lib.hid (by
      unfold NV.write
      rw [← hX, ← hL, if_neg hA, ← hT, ← hM, ← hF])
    have HF := Lib.hid hF
    have HL := Lib.hid hL
    have HX := Lib.hid hX
    have HT := Lib.hid hT
    have HM := Lib.hid hM
    clear hA h hb ok hL hX hF hT hM
    go_enter Tryd.func31, Tryd.ntmps31
    go_upto_region 1 with fail
    rw [m1.out, m2.out]
    go_upto_region 2 with fail
    go_wp2_with fail
    rw [m3.out]
    refine (RZ.out).mono ?_
    rintro e w1 ⟨rfl, V1, n1, t1⟩
    clear RZ
    have hln : (N.resize M).now.length = M := by simp [NV.resize, fitL_len]
    have hll : (N.resize M).loose.length = secs M := by simp [NV.resize, fitL_len]
    have d3 := n1.c 3
    have rn := n1.n
    have rl := n1.l
    rw [hln] at rn
    rw [hll] at rl
    have hM0 : 0 < M := by have := HM.out; have := HT.out; have := HF.out; simp at q1; omega
    have hs0 : 0 < secs M := by unfold secs; omega
    obtain ⟨gn, kn1, hvn1, hk1, hk2⟩ := Row.own rn hM0
    obtain ⟨gl, kl1, hvl1, hk3, hk4⟩ := Row.own rl hs0
    simp only [maxLen] at hk2 hk4
    simp only [ncells, hvn1] at d3
    have N1 := Lib.hid n1
    have T1 := Lib.hid t1
    have B1 := Lib.hid (HB.out.chg t1.chg hnb)
    clear n1 t1 rn rl HB H hnb c3
    have hxl : off + x.length ≤ (N.resize M).now.length := by rw [hln, ← HX.out, ← HT.out]; exact hTM
    have HX2 := Lib.hid hxl
    have HV := Lib.hid (show V1.n = .slice (some ⟨gn, 0, none⟩) (N.resize M).now.length kn1 by rw [hln]; exact hvn1)
    have HW2 := Lib.hid (N1.out.putN HV.out off x hxl)
    have HLN := Lib.hid hln
    clear hxl hln
    go_upto_region 3 with fail
    go_cut [32] from 32 to 39 (fun s32 wx => s32 = .pointer (some ⟨a, 0, none⟩) ∧ wx = w1.setCells gn off (bts x))
    case first =>
      have s0 : (0 : Int) ≤ (off : Int) := by omega
      have s1 : (off : Int) ≤ (M : Int) := by omega
      have s2 : (M : Int) ≤ (kn1 : Int) := by omega
      have s3 : (off : Int) ≤ (kn1 : Int) := by omega
      by_cases hk : kn1 = off
      · have hc := copy_in N1.out HV.out off x B1.out HX2.out (some ⟨gn, 0, none⟩) 0 0 (fun h => by have := HX.out; have := HT.out; omega) (by rw [HLN.out]; omega)
        rw [← HX.out] at hc
        subst hk
        go_wp2
        go_meet
        exact ⟨rfl, rfl⟩
      · have hc := copy_in N1.out HV.out off x B1.out HX2.out (some ⟨gn, off, none⟩) (M - off) (kn1 - off) (fun h => rfl) (by rw [HLN.out])
        rw [← HX.out] at hc
        go_wp2
        go_meet
        exact ⟨rfl, rfl⟩
    case rest =>
      obtain ⟨rfl, rfl⟩ := hcut
      have hlen2 : (N.resize M).loose.length = secs M := hll
      have hFT : F ≤ T := by have := HF.out; omega
      have hsT : secs T ≤ secs M := by unfold secs; omega
      obtain ⟨Q, hQ⟩ : ∃ Q, Q = F / 16 := ⟨_, rfl⟩
      have hq : (F : Int) / 16 = (Q : Int) := by omega
      have hq2 : (F : Int).tdiv 16 = (Q : Int) := by rw [Int.tdiv_eq_ediv_of_nonneg (by omega)]; omega
      have hF2 : Q ≤ secs T := by unfold secs; omega
      rw [← hQ] at HNW
      clear hQ
      have SC := Lib.hid (sectors_any T)
      have hsm : secs M ≤ 65536 := by unfold secs; omega
      have W2 := Lib.hid (⟨HW2.out.1, T1.out.trans HW2.out.2⟩ : _ ∧ _)
      have HLL := Lib.hid hll
      generalize hw2 : w1.setCells gn off (bts x) = w2 at *
      clear hw2 HW2 N1 T1 B1 HV HX2 hll hlen2
      have W3 := Lib.hid (show InvW w a { N.resize M with now := splice (N.resize M).now off x } (Q) (secs T) V V1 (.int .i64 (Q : Int)) w2 from
        ⟨Q, Nat.le_refl _, hF2, rfl, by rw [mark_none _ _ _ (Nat.le_refl _)]; exact W2.out.1, W2.out.2⟩)
      clear W2
      go_wp2
      go_loopw [8] (fun s8 wr => InvW w a { N.resize M with now := splice (N.resize M).now off x } (Q) (secs T) V V1 s8 wr) (fun s8 _ => secs T - (intOf s8).toNat)
      case atStart => exact W3.out
      case round =>
        obtain ⟨k, hk0, hk9, rfl, hn, ht⟩ := hrel
        have HN3 := Lib.hid hn
        have HT3 := Lib.hid ht
        by_cases hlt : k < secs T
        · have e1 := hn.c 5
          simp only [ncells, hvl1] at e1
          have hll3 : k < secs M := by omega
          have hkl : k < (mark (N.resize M).loose (Q) k).length := by rw [mark_len, HLL.out]; exact hll3
          have hvl : V1.l = .slice (some ⟨gl, 0, none⟩) (mark (N.resize M).loose (Q) k).length kl1 := by rw [mark_len, HLL.out]; exact hvl1
          have nx := Lib.hid (HN3.out.markL hvl k hkl)
          have rw1 := HN3.out.l
          rw [hvl] at rw1
          have cc := Row.cell rw1 k hkl
          have cs : ∃ c, wr.cell? ⟨gl, k, none⟩ = some c := by rw [cc.1]; exact ⟨_, List.getElem?_eq_getElem (by rw [bls_len]; exact hkl)⟩
          obtain ⟨c0, cs⟩ := cs
          have cf := cc.2
          have i0 : (0 : Int) ≤ (k : Int) := by omega
          have i1 : (k : Int) < (secs M : Int) := by omega
          have d1 : decide (k < secs T) = true := decide_eq_true hlt
          clear hn ht cc rw1 hvl hkl W3
          go_wp2_with (go_at_call 54; refine (SC.out _ (by omega)).mono ?_; rintro e w' ⟨rfl, rfl⟩)
          refine ⟨⟨k + 1, by omega, by omega, rfl, ?_, HT3.out.trans nx.out.2⟩, by simp [intOf]; omega⟩
          have := nx.out.1
          simp only [mark_set _ _ _ hk0] at this
          exact this
        · obtain rfl : k = secs T := by omega
          clear hlt hn ht W3
          go_wp2_with (go_at_call 54; refine (SC.out _ (by omega)).mono ?_; rintro e w' ⟨rfl, rfl⟩)
          go_end0
          exact ⟨rfl, V1, by rw [HNW.out]; exact HN3.out, HT3.out⟩
end Go.Proofs.YtbneedmfpldpfaaDoor
