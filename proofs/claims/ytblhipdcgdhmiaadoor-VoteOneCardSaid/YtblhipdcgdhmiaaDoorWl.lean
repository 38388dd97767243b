import Derived.Test.YtblhipdcgdhmiaaDoorWp
namespace Go.Proofs.YtblhipdcgdhmiaaDoor
open Go.RowKit Go.Sha

set_option maxHeartbeats 40000000 in
set_option maxRecDepth 100000 in
theorem ref_any (v : Value) (m : List Int) (w : World) (sm : Src w v m w.heap.size) (hl : m.length ≤ 30000) :
    Calls Tryd.prog 45 #[v] w fun e w' => ∃ v', e = .returned v' ∧ Below w.heap.size w w' ∧ OwnB w' w.heap.size v' (shaL m) := by
  obtain ⟨adm, capm, xm, ym, em, lm⟩ := sm
  have sm : Src w v m w.heap.size := ⟨adm, capm, xm, ym, em, lm⟩
  have HM := Lib.hid em
  rw [em]
  clear em lm
  go_enter Tryd.func45, Tryd.ntmps45
  go_wp2_with fail
  refine (rounds_any w).mono ?_
  rintro e w1 ⟨rfl, b1⟩
  have a1 := At.new w1 (ws (List.replicate 64 0)) 100
  rw [← zeros64] at a1
  go_upto_region 2 with (refine wpList_store_row rfl 100 _ _ rfl w1.heap.size (ws K) rfl rfl 100 _ a1 sz45 rfl (ws_one _) ?_)
  rw [World.setRow_alloc_new]
  simp only [Act.put]
  clear a1
  have a1 := At.new w1 (ws K) 100
  have e2 : Below w.heap.size w (w1.alloc (.cells (ws K) 100)) := b1.alloc b1.size _
  have z2 : (w1.alloc (.cells (ws K) 100)).heap.size = w1.heap.size + 1 := by simp
  have hKb : w.heap.size ≤ w1.heap.size := b1.size
  clear b1
  obtain ⟨Kb, hKe⟩ : ∃ Kb, Kb = w1.heap.size := ⟨_, rfl⟩
  rw [← hKe] at a1 z2 hKb ⊢
  clear hKe
  generalize w1.alloc (.cells (ws K) 100) = w2 at *
  have Z2 := Lib.hid z2; clear z2
  have a3 := At.new w2 (ws (List.replicate 8 0)) 91
  rw [← zeros8] at a3
  go_upto_region 3 with (refine wpList_store_row rfl 91 _ _ rfl w2.heap.size (ws iv) rfl rfl 91 _ a3 sz27 rfl (ws_one _) ?_)
  rw [World.setRow_alloc_new]
  simp only [Act.put]
  clear a3
  have a3 := At.new w2 (ws iv) 91
  have k3 := a1.alloc (.cells (ws iv) 91)
  have e3 : Below w.heap.size w (w2.alloc (.cells (ws iv) 91)) := e2.alloc e2.size _
  have z3 : (w2.alloc (.cells (ws iv) 91)).heap.size = w2.heap.size + 1 := by simp
  have hHb : Kb < w2.heap.size := by have := Z2.out; omega
  clear e2 a1 Z2
  obtain ⟨Hb, hHe⟩ : ∃ Hb, Hb = w2.heap.size := ⟨_, rfl⟩
  rw [← hHe] at a3 z3 hHb ⊢
  clear hHe
  generalize w2.alloc (.cells (ws iv) 91) = w3 at *
  have hown := OwnB.made w3
  have pre : Pre w Kb Hb w3.heap.size (w3.alloc (.cells #[] 5)) := ⟨e3.alloc e3.size _, k3.alloc _, a3.alloc _, hKb, hHb, by omega, by simp⟩
  have s3 : Src (w3.alloc (.cells #[] 5)) (.slice adm m.length capm) m Hb := by rw [← HM.out]; exact sm.of_below pre.ext (by omega)
  have Z3 := Lib.hid z3; clear z3 e3 k3 a3
  have hB0 : w3.heap.size ≤ (w3.alloc (.cells #[] 5)).heap.size := by simp
  have hBH : Hb < w3.heap.size := by have := Z3.out; omega
  go_upto_region 4 with (first
    | (refine list_append_bytes rfl (.tmp 25) (.tmp 26) 22 rfl Tryd.underlying22 u8zero w3.heap.size (.slice (some ⟨w3.heap.size, 0, none⟩) 0 0) [] rfl hown _ m Hb rfl s3 (by rw [List.length_nil]; omega) hB0 ?_; intro vx w4 ox gx; have pg4 := pre.grow (hown.grown gx hB0); have hz4 := pg4.hz; rw [List.nil_append] at ox)
    | (refine list_append_bytes rfl (.tmp 27) (.tmp 28) 22 rfl Tryd.underlying22 u8zero w3.heap.size vx m rfl (ox.ext (Ext.alloc w4 (.cells #[.int .u8 128] 5))) _ [128] Hb rfl (src_one w4 128 Hb (by omega)) (by rw [List.length_singleton]; omega) (by rw [size_alloc]; omega) ?_; intro vy w5 oy gy))
  have p5 : Pre w Kb Hb w3.heap.size w5 := (pg4.grow ((Below.refl _ _).alloc (by omega) (.cells #[.int .u8 128] 5))).grow ((ox.ext (Ext.alloc w4 (.cells #[.int .u8 128] 5))).grown gy (by rw [size_alloc]; omega))
  clear pg4 ox gx gy pre hown s3 hz4 hB0 Z3
  generalize w3.heap.size = B at *
  go_loopw [5] (fun v wr => Inv1m w Kb Hb B m v wr) (fun v _ => padZ m.length + m.length + 1 - sliceLen v)
  case atStart => exact ⟨0, by omega, oy, p5⟩
  case round =>
    clear oy p5
    obtain ⟨j, hj, oj, pj⟩ := hrel
    obtain ⟨adj, capj, rfl⟩ := oj.len
    have hlen : (m ++ 128 :: List.replicate j (0 : Int)).length = m.length + 1 + j := by simp; omega
    obtain ⟨n, hn⟩ : ∃ n, n = m.length + 1 + j := ⟨_, rfl⟩
    rw [hlen, ← hn] at oj ⊢
    have hzj := pj.hz
    have hBj := pj.hB
    have hpz := padSize_pos m.length
    have hpz2 : padZ m.length ≤ 63 := by unfold padZ; omega
    by_cases hlt : j < padZ m.length
    · have hne := padZ_not m.length j hlt
      have t1 : ((n : Int) % 64 != 56) = true := by rw [bne_iff_ne]; omega
      have n0 : (0 : Int) ≤ (n : Int) := by omega
      have Hn := Lib.hid hn; clear hn hne
      have Hl := Lib.hid hlen; clear hlen
      go_wp2_with (refine list_append_bytes rfl (.tmp 34) (.tmp 35) 22 rfl Tryd.underlying22 u8zero B (.slice adj n capj) (m ++ 128 :: List.replicate j 0) rfl (oj.ext (Ext.alloc wr (.cells #[.int .u8 0] 5))) _ [0] Hb rfl (src_one wr 0 Hb (by omega)) (by rw [Hl.out, List.length_singleton]; omega) (by rw [size_alloc]; omega) ?_; intro vy w6 oy gy)
      have p6 : Pre w Kb Hb B w6 := (pj.grow ((Below.refl _ _).alloc (by omega) (.cells #[.int .u8 0] 5))).grow ((oj.ext (Ext.alloc wr (.cells #[.int .u8 0] 5))).grown gy (by rw [size_alloc]; omega))
      have e6 : (m ++ 128 :: List.replicate j (0 : Int)) ++ [0] = m ++ 128 :: List.replicate (j + 1) 0 := by rw [List.replicate_succ']; simp
      rw [e6] at oy
      refine ⟨⟨j + 1, by omega, oy, p6⟩, ?_⟩
      obtain ⟨ay, cy, rfl⟩ := oy.len
      show _ - sliceLen (.slice ay _ cy) < _ - sliceLen (.slice adj n capj)
      simp only [sliceLen, List.length_append, List.length_cons, List.length_replicate]
      have := Hn.out
      omega
    · obtain rfl : j = padZ m.length := by omega
      have hend := padZ_end m.length
      have t1 : ((n : Int) % 64 != 56) = false := by rw [bne_eq_false_iff_eq]; omega
      have n0 : (0 : Int) ≤ (n : Int) := by omega
      have Hn := Lib.hid hn; clear hn hend hlt hj
      have Hl := Lib.hid hlen; clear hlen
      go_wp2_with fail
      go_loopw [5, 7] (fun v i wr => Inv2m w Kb Hb B m v i wr) (fun _ i _ => (intOf i + 1).toNat)
      case atStart => exact ⟨0, by omega, rfl, by simpa [cnts] using oj, pj⟩
      case round =>
        clear oj pj hzj hBj t1 n0
        obtain ⟨j, hj, rfl, oj, pj⟩ := hrel
        obtain ⟨adj, capj, rfl⟩ := oj.len
        have hlen : (m ++ 128 :: (List.replicate (padZ m.length) (0 : Int) ++ cnts m.length j)).length = m.length + 1 + padZ m.length + j := by simp [cnts_length]; omega
        obtain ⟨n2, hn2⟩ : ∃ n2, n2 = m.length + 1 + padZ m.length + j := ⟨_, rfl⟩
        rw [hlen, ← hn2] at oj ⊢
        have hzj := pj.hz
        have hBj := pj.hB
        by_cases hlt : j < 8
        · have s0 : (0 : Int) ≤ 7 - (j : Int) := by omega
          have s1 : (0 : Int) ≤ 8 * (7 - (j : Int)) := by omega
          have s2 : ((8 : Int) * (7 - (j : Int))).toNat = 8 * (7 - j) := by omega
          have s3 : min (8 * (7 - j)) 64 = 8 * (7 - j) := by omega
          have cb : (m.length : Int) * 8 / 2 ^ (8 * (7 - j)) % 256 = cntByte m.length (7 - j) := by
            unfold cntByte; rw [IntWalk.u64_in _ (by omega)]
          have Hcb := Lib.hid cb; clear cb
          have Hn2 := Lib.hid hn2; clear hn2
          have Hl2 := Lib.hid hlen; clear hlen
          go_wp2_with (refine list_append_bytes rfl (.tmp 45) (.tmp 51) 22 rfl Tryd.underlying22 u8zero B (.slice adj n2 capj) (m ++ 128 :: (List.replicate (padZ m.length) 0 ++ cnts m.length j)) rfl (oj.ext (Ext.alloc wr (.cells #[.int .u8 ((m.length : Int) * 8 / 2 ^ (8 * (7 - j)) % 256)] 5))) _ [(m.length : Int) * 8 / 2 ^ (8 * (7 - j)) % 256] Hb rfl (src_one wr _ Hb (by omega)) (by rw [Hl2.out, List.length_singleton]; omega) (by rw [size_alloc]; omega) ?_; intro vy w6 oy gy)
          have p6 : Pre w Kb Hb B w6 := (pj.grow ((Below.refl _ _).alloc (by omega) (.cells #[.int .u8 ((m.length : Int) * 8 / 2 ^ (8 * (7 - j)) % 256)] 5))).grow ((oj.ext (Ext.alloc wr (.cells #[.int .u8 ((m.length : Int) * 8 / 2 ^ (8 * (7 - j)) % 256)] 5))).grown gy (by rw [size_alloc]; omega))
          rw [Hcb.out, show (m ++ 128 :: (List.replicate (padZ m.length) (0 : Int) ++ cnts m.length j)) ++ [cntByte m.length (7 - j)] = m ++ 128 :: (List.replicate (padZ m.length) 0 ++ cnts m.length (j + 1)) by simp [cnts]] at oy
          exact ⟨⟨j + 1, by omega, congrArg (Value.int .i64) (by omega), oy, p6⟩, by simp [intOf]; omega⟩
        · have ej : j = 8 := by omega
          have tn : decide ((0 : Int) ≤ 7 - (j : Int)) = false := by simp; omega
          have tn2 : ¬ ((0 : Int) ≤ 7 - (j : Int)) := by omega
          rw [ej] at oj hlen hn2
          clear ej
          have ep : m ++ 128 :: (List.replicate (padZ m.length) (0 : Int) ++ cnts m.length 8) = m ++ padL m.length := by rw [padL_eq]
          rw [ep] at oj
          have hL : n2 = (m ++ padL m.length).length := by rw [hn2, ← hlen, ep]
          have hw64 : n2 % 64 = 0 := by rw [hL, List.length_append, padL_length]; exact padSize_whole _
          have hn2b : n2 ≤ 30100 := by omega
          have hn20 : 64 ≤ n2 := by omega
          obtain ⟨p, hp⟩ : ∃ p, p = m ++ padL m.length := ⟨_, rfl⟩
          rw [← hp] at oj hL
          obtain ⟨mb, capb, cur, hv, hmb, am, hcur⟩ := oj.block (by omega)
          obtain ⟨rfl, rfl⟩ : adj = some ⟨mb, 0, none⟩ ∧ capj = capb := by injection hv with h1 _ h3; exact ⟨h1, h3⟩
          have Hcur := Lib.hid hcur; clear hcur
          have Hp := Lib.hid hp; clear hp
          have HL := Lib.hid hL; clear hL
          clear hv ep hlen hn2 hlt hj
          have b1 : w.heap.size ≤ Kb := pj.hK
          have b2 : Kb < Hb := pj.hH
          have b3 : Hb < mb := by omega
          go_wp2_with fail
          go_loopw [8] (fun i wr => InvO w Kb Hb mb cur p i wr) (fun i _ => p.length - (intOf i).toNat)
          case atStart => exact ⟨0, by omega, rfl, pj.ext, pj.k, pj.h, am⟩
          case round =>
            clear oj pj hzj hBj am
            obtain ⟨k, hk, rfl, ex, ak, ah, am⟩ := hrel
            have hLL := HL.out
            obtain ⟨A, hA⟩ : ∃ A, A = 64 * k := ⟨_, rfl⟩
            rw [← hA] at hk ⊢
            by_cases hlt : A < n2
            · have hAb : A + 64 ≤ p.length := by omega
              have hch : (chainB (chunks k p)).length = 8 := chainB_length _
              have hst : chainB (chunks (k + 1) p) = mixL (chainB (chunks k p)) ((p.drop A).take 64) := by rw [hA]; exact chain_step k p
              have hblk := blk_length p A hAb
              have Hst := Lib.hid hst; clear hst
              have HA := Lib.hid hA; clear hA
              obtain ⟨ch, hch2⟩ : ∃ ch, ch = chainB (chunks k p) := ⟨_, rfl⟩
              obtain ⟨blk, hblk2⟩ : ∃ blk, blk = (p.drop A).take 64 := ⟨_, rfl⟩
              rw [← hch2] at ah hch
              rw [← hblk2] at hblk
              have Hch2 := Lib.hid hch2; clear hch2
              have Hblk2 := Lib.hid hblk2; clear hblk2
              have Hch := Lib.hid hch; clear hch
              have Hblk := Lib.hid hblk; clear hblk
              have i0 : (A : Int) < (n2 : Int) := by omega
              have HLL := Lib.hid hLL; clear hLL
              refine blk_round w wr Kb Hb mb A n2 capj cur p ch blk b1 b2 b3 hn2b hAb i0 Hcur HLL Hblk2 Hch Hblk ex ak ah am _ _ _ _ _ _ _ _ _ _ _ _ _ _ _ _ _ _ _ _ _ _ _ _ _ _ _ _ _ _ _ _ _ _ _ _ _ _ _ _ _ _ _ _ _ _ _ _ _ _ _ _ _ _ _ _ _ _ _ _ _ _ _ _ _ _ _ _ _ _ _ _ _ _ _ _ _ _ _ _ _ _ _ _ _ _ _ _ _ _ _ _ _ _ _ _ _ _ _ _ _ _ _ _ _ _ _ _ _ _ _ _ _ _ _ _ _ _ _ _ _ _ _ _ _ _ _ _ _ _ _ _ _ _ _ _ _ _ _ _ _ _ _ _ _ _ _ _ _ _ _ _ _ _ _ _ _ _ _ _ _ _ _ _ _ _ _ _ _ _ _ _ _ _ _ _ _ _ _ _ _ _ _ _ _ _ _ _ _ _ _ _ _ _ _ _ _ _ _ _ _ _ _ _ _ _ _ _ _ _ _ _ _ _ _ _ _ _ _ _ _ _ _ _ _ _ _ _ _ _ _ _ _ _ _ _ _ _ _ _ _ _ _ _ _ _ _ _ _ _ _ _ _ _ _ _ _ _ _ _ _ _ _ _ _ _ _ _ _ _ _ _ _ _ _ _ _ _ _ _ ?_
              intro u9 u10 u11 u12 u13 u14 u15 u16 u17 u18 u19 u20 u53 u54 u55 u56 u57 u58 u59 u60 u61 u62 u63 u64 u65 u66 u67 u68 u69 u70 u71 u72 u73 u74 u75 u76 u77 u78 u79 u80 u81 u82 u83 u84 u85 u86 u87 u88 u89 u90 u91 u92 u93 u94 u95 u96 u97 u98 u99 u100 u101 u102 u103 u104 u105 u106 u107 u108 u109 u110 u111 u112 u113 u114 u115 u116 u117 u118 u119 u120 u121 u122 u123 u124 u125 u126 u127 u128 u129 u130 u131 u132 u133 u134 u135 u136 u137 u138 u139 u140 u141 u142 u143 u144 u145 u146 u147 u148 u149 u150 u151 u152 u153 u154 u155 u156 u157 u158 u159 u160 u161 u162 u163 u164 u165 u166 u167 u168 u169 u170 u171 u172 u173 u174 u175 u176 u177 u178 u179 u180 u181 u182 u183 u184 u185 u186 u187 u188 u189 u190 u191 u192 u193 u194 u195 u196 u197 u198 u199 u200 u201 u202 u203 u204 u205 u206 u207 u208 u209 u210 u211 u212 u213 u214 u215 u216 u217 u218 u219 u220 u221 u222 u223 u224 u225 u226 u227 u228 u229 u230 u231 u232 u233 u234 u235 u236 u237 u238 u239 u240 u241 u242 u243 u244 u245 u246 u247 u248 u249 u250 u251 u252 u253 u254 w9 ex9 ak9 ah9 am9
              have hA64 := HA.out
              have hLL := HLL.out
              refine ⟨⟨_, _, _, _, _, _, _, _, _, _, _, _, _, _, _, _, _, _, _, _, _, _, _, _, _, _, _, _, _, _, _, _, _, _, _, _, _, _, _, _, _, _, _, _, _, _, _, _, _, _, _, _, _, _, _, _, _, _, _, _, _, _, _, _, _, _, _, _, _, _, _, _, _, _, _, _, _, _, _, _, _, _, _, _, _, _, _, _, _, _, _, _, _, _, _, _, _, _, _, _, _, _, _, _, _, _, _, _, _, _, _, _, _, _, _, _, _, _, _, _, _, _, _, _, _, _, _, _, _, _, _, _, _, _, _, _, _, _, _, _, _, _, _, _, _, _, _, _, _, _, _, _, _, _, _, _, _, _, _, _, _, _, _, _, _, _, _, _, _, _, _, _, _, _, _, _, _, _, _, _, _, _, _, _, _, _, _, _, _, _, _, _, _, _, _, _, _, _, _, _, _, _, _, _, _, _, _, _, _, _, _, _, _, _, _, ⟨k + 1, by omega, congrArg (Value.int .i64) (by omega), ex9, ak9, ?_, am9⟩, rfl⟩, by simp [intOf]; omega⟩
              rw [Hst.out, ← Hch2.out, ← Hblk2.out]
              exact ah9
            · have hAn : A = n2 := by omega
              have dA : decide ((A : Int) < (n2 : Int)) = false := by simp; omega
              have tA : ¬ ((A : Int) < (n2 : Int)) := by omega
              have hco : chainB (chunks k p) = chainOf p := by unfold chainOf; rw [show p.length / 64 = k by omega]
              rw [hco] at ah
              have hc8 : (chainOf p).length = 8 := chainOf_length p
              have hsh : shaL m = wordsB (chainOf p) := by unfold shaL; rw [← Hp.out]
              have Hsh := Lib.hid hsh; clear hsh hco
              have Hc8 := Lib.hid hc8; clear hc8
              generalize chainOf p = co at *
              have b9 : mb < wr.heap.size := am.lt
              clear hlt hAn hA hk hLL ak am
              go_wp2_with fail
              obtain ⟨Wz, hWz⟩ : ∃ Wz, Wz = wr.heap.size := ⟨_, rfl⟩
              rw [← hWz] at b9
              have hWz2 : Wz ≤ wr.heap.size := by omega
              clear hWz
              go_loopw [21, 22] (fun o i wq => ∃ q : Nat, q ≤ 8 ∧ i = .int .i64 q ∧ Below w.heap.size w wq ∧ At wq Hb (ws co) 91 ∧ Wz ≤ wq.heap.size ∧ OwnB wq Wz o (wordsB (co.take q))) (fun _ i _ => 8 - (intOf i).toNat)
              case atStart => exact ⟨0, by omega, rfl, ex, ah, hWz2, OwnB.nil _ _⟩
              case round =>
                clear ex ah
                obtain ⟨q, hq, rfl, ex, ah, hsz, oo⟩ := hrel
                by_cases hlt8 : q < 8
                · have q0 : (q : Int) < 8 := by omega
                  have q1 : (0 : Int) ≤ (q : Int) := by omega
                  have hc := ah.get_ws q (by rw [Hc8.out]; omega)
                  obtain ⟨x, hx⟩ : ∃ x, x = co[q]?.getD 0 := ⟨_, rfl⟩
                  rw [← hx] at hc
                  have ht : co.take (q + 1) = co.take q ++ [x] := by rw [List.take_succ_eq_append_getElem (by rw [Hc8.out]; omega), hx, List.getElem?_eq_getElem (by rw [Hc8.out]; omega)]; rfl
                  have Hx := Lib.hid hx; clear hx
                  have Ht := Lib.hid ht; clear ht
                  have hl4 : (wordsB (co.take q)).length = 4 * q := by rw [wordsB_length, List.length_take, Hc8.out]; omega
                  have Hl4 := Lib.hid hl4; clear hl4
                  obtain ⟨ado, capo, rfl⟩ := oo.len
                  rw [Hl4.out] at oo ⊢
                  go_wp2
                  have hoY : OwnB (wr.alloc (.cells (bs (wbytesW x)) 5)).drew Wz (.slice ado (4 * q) capo) (wordsB (co.take q)) := oo.ext (Below.drew (Ext.alloc wr (.cells (bs (wbytesW x)) 5)))
                  have rgY := (At.new wr (bs (wbytesW x)) 5).drew.range_bs
                  have Rg := Lib.hid rgY; clear rgY
                  have szY : Wz ≤ (wr.alloc (.cells (bs (wbytesW x)) 5)).drew.heap.size := by show Wz ≤ (wr.alloc (.cells (bs (wbytesW x)) 5)).heap.size; rw [size_alloc]; omega
                  have hcY : (wr.alloc (.cells (bs (wbytesW x)) 5)).drew.cell? ⟨Hb, q, none⟩ = some (.int .u32 x) := by
                    have h9 := (ah.alloc (.cells (bs (wbytesW x)) 5)).drew.get_ws q (by rw [Hc8.out]; omega)
                    rw [← Hx.out] at h9; exact h9
                  have HcY := Lib.hid hcY; clear hcY
                  go_region_held3 (fun w' => w'.cell? ⟨Hb, q, none⟩ = some (.int .u32 x)) (first | assumption | go_keep)
                    ((refine step_append_bytes rfl (.tmp 259) (.tmp 279) 22 rfl Tryd.underlying22 u8zero Wz (.slice ado (4 * q) capo) (wordsB (co.take q)) rfl (by exact hoY) ⟨wr.heap.size, 0, none⟩ (wbytesW x) 4 4 rfl rfl (by exact Rg.out) (by rw [Hl4.out]; show 4 * q + 4 ≤ _; omega) (by exact szY) ?_; intro vy w21 oy gy; have bg : Below Wz (wr.alloc (.cells (bs (wbytesW x)) 5)).drew w21 := hoY.grown gy szY; have s21 : w21.cell? ⟨Hb, q, none⟩ = some (.int .u32 x) := by rw [bg.cell (p := ⟨Hb, q, none⟩) (by show Hb < Wz; omega)]; exact HcY.out))
                  have e21 : Below w.heap.size w w21 := ((ex.alloc ex.size (.cells (bs (wbytesW x)) 5)).drew).trans (bg.mono (by omega))
                  have a21 : At w21 Hb (ws co) 91 := (ah.alloc (.cells (bs (wbytesW x)) 5)).drew.below bg (by omega)
                  rw [wbytesW_eq, ← wordsB_snoc, ← Ht.out] at oy
                  have z21 : Wz ≤ w21.heap.size := Nat.le_trans szY bg.size
                  clear hoY Rg szY HcY bg gy s21
                  go_wp2
                  exact ⟨⟨q + 1, by omega, by go_num, e21, a21, z21, oy⟩, by simp [intOf]; omega⟩
                · have eq8 : q = 8 := by omega
                  have dq : decide ((q : Int) < 8) = false := by simp; omega
                  have tq : ¬ ((q : Int) < 8) := by omega
                  have ot := oo.less (show w.heap.size ≤ Wz by omega)
                  rw [eq8, List.take_of_length_le (by rw [Hc8.out]; omega)] at ot
                  clear oo eq8 hlt8 hq
                  go_wp2
                  go_ret
                  rw [Hsh.out]
                  exact ⟨_, rfl, ex, ot⟩

end Go.Proofs.YtblhipdcgdhmiaaDoor
