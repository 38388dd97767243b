/- The document's own sum: its table, and the text with what stands behind it. The walk of the document's own sum ('linnetref1.Sum').  -/
import Derived.Test.YtnhokjnmpdiokaaGreatDoorSqM
import Derived.Test.YtnhokjnmpdiokaaGreatDoorSpM
import Derived.Deep.RegionHeld3
namespace Go.Proofs.YtnhokjnmpdiokaaGreatDoor
open Go.RowKit Go.Sha

set_option maxHeartbeats 1000000 in
set_option maxRecDepth 100000 in
theorem rounds_any (w : World) :
    Calls Tryz.prog 68 #[] w fun e w' => e = .returned (.agg (ws K)) ∧ Below w.heap.size w w' := by
  have a0 := At.new w (ws (List.replicate 64 0)) 121
  rw [← zeros64] at a0
  go_enter Tryz.func68, Tryz.ntmps68
  go_wp2_with (refine wpList_store_row rfl 121 _ _ rfl (w.heap.size) (ws K) rfl rfl 121 _ a0 sz45 rfl (ws_one _) ?_)
  exact bodyPost_ret (v := .agg (ws K)) (results_cell_row Tryz.results68 _ _ w.heap.size 121 _ (0, 0) _ rfl (a0.row _) Tryz.underlying121 rfl sz45) rfl ⟨rfl, below_setRow ((Below.refl _ _).alloc (Nat.le_refl _) _) (Nat.le_refl _) _⟩

end Go.Proofs.YtnhokjnmpdiokaaGreatDoor

namespace Go.Proofs.YtnhokjnmpdiokaaGreatDoor
open Go.RowKit Go.Sha

theorem sz27 : (Tryz.prog.info? 123).map (·.size) = some 8 := by kernel_rfl

theorem rotI (x k : Int) (w : World) (hk : 0 ≤ k ∧ k ≤ 32) : Calls Tryz.prog 69 #[.int .u32 x, .int .i64 k] w fun e w' => e = .returned (.int .u32 (rotr x k.toNat)) ∧ ∃ n, w' = w.drewN n := by
  obtain ⟨n, rfl⟩ := Int.eq_ofNat_of_zero_le hk.1
  rw [Int.toNat_natCast]
  exact rot x n w (by omega)

/-- The four bytes as a region that draws spells them. -/
def wbytesW (x : Int) : List Int := [IntKind.u8.wrap (x / 16777216), IntKind.u8.wrap (x / 65536), IntKind.u8.wrap (x / 256), IntKind.u8.wrap x]
theorem wbytesW_eq (x : Int) : wbytesW x = wbytes x := by unfold wbytesW wbytes; simp only [IntKind.wrap_u8]

/-- What stands while the text is made: the table, the chain, the row. -/
structure Pre (w : World) (Kb Hb B : Nat) (wr : World) : Prop where
  ext : Below w.heap.size w wr
  k : At wr Kb (ws K) 121
  h : At wr Hb (ws iv) 123
  hK : w.heap.size ≤ Kb
  hH : Kb < Hb
  hB : Hb < B
  hz : B < wr.heap.size
theorem Pre.grow {w wr w' : World} {Kb Hb B : Nat} (p : Pre w Kb Hb B wr) (h : Below B wr w') : Pre w Kb Hb B w' :=
  have h1 := p.hK; have h2 := p.hH; have h3 := p.hB; have h4 := p.hz; have h5 := h.size
  ⟨p.ext.trans (h.mono (by omega)), p.k.below h (by omega), p.h.below h (by omega), h1, h2, h3, by omega⟩

def Inv1m (w : World) (Kb Hb B : Nat) (m : List Int) (v : Value) (wr : World) : Prop :=
  ∃ j, j ≤ padZ m.length ∧ OwnB wr B v (m ++ 128 :: List.replicate j 0) ∧ Pre w Kb Hb B wr
def Inv2m (w : World) (Kb Hb B : Nat) (m : List Int) (v i : Value) (wr : World) : Prop :=
  ∃ j : Nat, j ≤ 8 ∧ i = .int .i64 (7 - (j : Int)) ∧ OwnB wr B v (m ++ 128 :: (List.replicate (padZ m.length) 0 ++ cnts m.length j)) ∧ Pre w Kb Hb B wr

/-- The chain behind so many blocks. -/
def InvO (w : World) (Kb Hb mb : Nat) (cur : Array Value) (p : List Int) (i : Value) (wr : World) : Prop :=
  ∃ k : Nat, 64 * k ≤ p.length ∧ i = .int .i64 ((64 * k : Nat) : Int) ∧ Below w.heap.size w wr ∧ At wr Kb (ws K) 121 ∧ At wr Hb (ws (chainB (chunks k p))) 123 ∧ At wr mb cur 5
def Inv4 (w : World) (Kb Hb mb Wb : Nat) (ch blk : List Int) (cur : Array Value) (q : Nat) (i : Value) (wr : World) : Prop :=
  ∃ j : Nat, j ≤ q ∧ i = .int .i64 j ∧ S5 w Kb Hb mb Wb ch (schA blk j) cur wr

def loopsOf : Code → List Code
  | .loop c => [c]
  | .seq a b => loopsOf a ++ loopsOf b
  | .block _ c => loopsOf c
  | .scope c => loopsOf c
  | .cond _ a b => loopsOf a ++ loopsOf b
  | _ => []
noncomputable def blkBody : Code := ((((Tryz.f44.body.map loopsOf).getD [])[2]?).getD .skip)

set_option maxHeartbeats 40000000 in
set_option maxRecDepth 1000000 in
/-- One round of the loop over the blocks. -/
theorem blk_round (w wr : World) (Kb Hb mb A n2 capj : Nat) (cur : Array Value) (p ch blk : List Int)
    (b1 : w.heap.size ≤ Kb) (b2 : Kb < Hb) (b3 : Hb < mb) (hn2b : n2 ≤ 30100) (hAb : A + 64 ≤ p.length) (i0 : (A : Int) < (n2 : Int))
    (Hcur : Hid (∀ j, j < p.length → cur[j]? = some (.int .u8 (p[j]?.getD 0)))) (HLL : Hid (n2 = p.length)) (Hblk2 : Hid (blk = (p.drop A).take 64)) (Hch : Hid (ch.length = 8)) (Hblk : Hid (blk.length = 64))
    (ex : Below w.heap.size w wr) (ak : At wr Kb (ws K) 121) (ah : At wr Hb (ws ch) 123) (am : At wr mb cur 5)
    (KK : Act → World → Prop) (Q0 : Exit → Act → World → Prop) (t0 t1 t2 t6 t7 t9 t10 t11 t12 t13 t14 t15 t16 t17 t18 t19 t20 t21 t22 t23 t24 t25 t26 t27 t28 t29 t30 t31 t32 t33 t34 t35 t36 t37 t38 t39 t40 t41 t42 t43 t44 t45 t46 t47 t48 t49 t50 t51 t52 t53 t54 t55 t56 t57 t58 t59 t60 t61 t62 t63 t64 t65 t66 t67 t68 t69 t70 t71 t72 t73 t74 t75 t76 t77 t78 t79 t80 t81 t82 t83 t84 t85 t86 t87 t88 t89 t90 t91 t92 t93 t94 t95 t96 t97 t98 t99 t100 t101 t102 t103 t104 t105 t106 t107 t108 t109 t110 t111 t112 t113 t114 t115 t116 t117 t118 t119 t120 t121 t122 t123 t124 t125 t126 t127 t128 t129 t130 t131 t132 t133 t134 t135 t136 t137 t138 t139 t140 t141 t142 t143 t144 t145 t146 t147 t148 t149 t150 t151 t152 t153 t154 t155 t156 t157 t158 t159 t160 t161 t162 t163 t164 t165 t166 t167 t168 t169 t170 t171 t172 t173 t174 t175 t176 t177 t178 t179 t180 t181 t182 t183 t184 t185 t186 t187 t188 t189 t190 t191 t192 t193 t194 t195 t196 t197 t198 t199 t200 t201 t202 t203 t204 t205 t206 t207 t208 t209 t210 t211 t212 t213 t214 t215 t216 t217 t218 t219 t220 t221 t222 t223 t224 t225 t226 t227 t228 t229 t230 t231 t232 t233 t234 t235 t236 t237 t238 t239 t240 t241 t242 t243 t244 t245 t246 t247 t248 t249 t250 t251 t252 t253 t254 t255 t256 t257 t258 t259 t260 t261 t262 t263 t264 t265 t266 t267 t268 t269 t270 t271 t272 t273 t274 t275 t276 t277 t278 t279 t280 t281 : Value)
    (hK : ∀ (u9 u10 u11 u12 u13 u14 u15 u16 u17 u18 u19 u20 u53 u54 u55 u56 u57 u58 u59 u60 u61 u62 u63 u64 u65 u66 u67 u68 u69 u70 u71 u72 u73 u74 u75 u76 u77 u78 u79 u80 u81 u82 u83 u84 u85 u86 u87 u88 u89 u90 u91 u92 u93 u94 u95 u96 u97 u98 u99 u100 u101 u102 u103 u104 u105 u106 u107 u108 u109 u110 u111 u112 u113 u114 u115 u116 u117 u118 u119 u120 u121 u122 u123 u124 u125 u126 u127 u128 u129 u130 u131 u132 u133 u134 u135 u136 u137 u138 u139 u140 u141 u142 u143 u144 u145 u146 u147 u148 u149 u150 u151 u152 u153 u154 u155 u156 u157 u158 u159 u160 u161 u162 u163 u164 u165 u166 u167 u168 u169 u170 u171 u172 u173 u174 u175 u176 u177 u178 u179 u180 u181 u182 u183 u184 u185 u186 u187 u188 u189 u190 u191 u192 u193 u194 u195 u196 u197 u198 u199 u200 u201 u202 u203 u204 u205 u206 u207 u208 u209 u210 u211 u212 u213 u214 u215 u216 u217 u218 u219 u220 u221 u222 u223 u224 u225 u226 u227 u228 u229 u230 u231 u232 u233 u234 u235 u236 u237 u238 u239 u240 u241 u242 u243 u244 u245 u246 u247 u248 u249 u250 u251 u252 u253 u254 : Value) (w' : World), Below w.heap.size w w' → At w' Kb (ws K) 121 → At w' Hb (ws (mixL ch blk)) 123 → At w' mb cur 5 → KK ⟨#[t0, t1, t2, .pointer (some ⟨Kb, 0, none⟩), .pointer (some ⟨Hb, 0, none⟩), .slice (some ⟨mb, 0, none⟩) n2 capj, t6, t7, .int .i64 (A + 64), u9, u10, u11, u12, u13, u14, u15, u16, u17, u18, u19, u20, t21, t22, t23, t24, t25, t26, t27, t28, t29, t30, t31, t32, t33, t34, t35, t36, t37, t38, t39, t40, t41, t42, t43, t44, t45, t46, t47, t48, t49, t50, t51, t52, u53, u54, u55, u56, u57, u58, u59, u60, u61, u62, u63, u64, u65, u66, u67, u68, u69, u70, u71, u72, u73, u74, u75, u76, u77, u78, u79, u80, u81, u82, u83, u84, u85, u86, u87, u88, u89, u90, u91, u92, u93, u94, u95, u96, u97, u98, u99, u100, u101, u102, u103, u104, u105, u106, u107, u108, u109, u110, u111, u112, u113, u114, u115, u116, u117, u118, u119, u120, u121, u122, u123, u124, u125, u126, u127, u128, u129, u130, u131, u132, u133, u134, u135, u136, u137, u138, u139, u140, u141, u142, u143, u144, u145, u146, u147, u148, u149, u150, u151, u152, u153, u154, u155, u156, u157, u158, u159, u160, u161, u162, u163, u164, u165, u166, u167, u168, u169, u170, u171, u172, u173, u174, u175, u176, u177, u178, u179, u180, u181, u182, u183, u184, u185, u186, u187, u188, u189, u190, u191, u192, u193, u194, u195, u196, u197, u198, u199, u200, u201, u202, u203, u204, u205, u206, u207, u208, u209, u210, u211, u212, u213, u214, u215, u216, u217, u218, u219, u220, u221, u222, u223, u224, u225, u226, u227, u228, u229, u230, u231, u232, u233, u234, u235, u236, u237, u238, u239, u240, u241, u242, u243, u244, u245, u246, u247, u248, u249, u250, u251, u252, u253, u254, t255, t256, t257, t258, t259, t260, t261, t262, t263, t264, t265, t266, t267, t268, t269, t270, t271, t272, t273, t274, t275, t276, t277, t278, t279, t280, t281], []⟩ w') :
    Code.wp Tryz.prog blkBody (Exit.then KK Q0) ⟨#[t0, t1, t2, .pointer (some ⟨Kb, 0, none⟩), .pointer (some ⟨Hb, 0, none⟩), .slice (some ⟨mb, 0, none⟩) n2 capj, t6, t7, .int .i64 A, t9, t10, t11, t12, t13, t14, t15, t16, t17, t18, t19, t20, t21, t22, t23, t24, t25, t26, t27, t28, t29, t30, t31, t32, t33, t34, t35, t36, t37, t38, t39, t40, t41, t42, t43, t44, t45, t46, t47, t48, t49, t50, t51, t52, t53, t54, t55, t56, t57, t58, t59, t60, t61, t62, t63, t64, t65, t66, t67, t68, t69, t70, t71, t72, t73, t74, t75, t76, t77, t78, t79, t80, t81, t82, t83, t84, t85, t86, t87, t88, t89, t90, t91, t92, t93, t94, t95, t96, t97, t98, t99, t100, t101, t102, t103, t104, t105, t106, t107, t108, t109, t110, t111, t112, t113, t114, t115, t116, t117, t118, t119, t120, t121, t122, t123, t124, t125, t126, t127, t128, t129, t130, t131, t132, t133, t134, t135, t136, t137, t138, t139, t140, t141, t142, t143, t144, t145, t146, t147, t148, t149, t150, t151, t152, t153, t154, t155, t156, t157, t158, t159, t160, t161, t162, t163, t164, t165, t166, t167, t168, t169, t170, t171, t172, t173, t174, t175, t176, t177, t178, t179, t180, t181, t182, t183, t184, t185, t186, t187, t188, t189, t190, t191, t192, t193, t194, t195, t196, t197, t198, t199, t200, t201, t202, t203, t204, t205, t206, t207, t208, t209, t210, t211, t212, t213, t214, t215, t216, t217, t218, t219, t220, t221, t222, t223, t224, t225, t226, t227, t228, t229, t230, t231, t232, t233, t234, t235, t236, t237, t238, t239, t240, t241, t242, t243, t244, t245, t246, t247, t248, t249, t250, t251, t252, t253, t254, t255, t256, t257, t258, t259, t260, t261, t262, t263, t264, t265, t266, t267, t268, t269, t270, t271, t272, t273, t274, t275, t276, t277, t278, t279, t280, t281], []⟩ wr := by
  conv => arg 2; whnf
  go_wp2_with fail
  have a9 := At.new wr (ws (List.replicate 64 0)) 121
  have s9 : S5 w Kb Hb mb wr.heap.size ch (schA blk 0) cur (wr.alloc (.cells (ws (List.replicate 64 0)) 121)) := ⟨ex.alloc ex.size _, ak.alloc _, ah.alloc _, am.alloc _, by rw [schA_zero]; exact a9⟩
  have b4 : mb < wr.heap.size := am.lt
  clear ex ak ah am a9
  rw [zeros64]
  obtain ⟨Wb, hWb⟩ : ∃ Wb, Wb = wr.heap.size := ⟨_, rfl⟩
  rw [← hWb] at s9 b4 ⊢
  clear hWb
  generalize wr.alloc (.cells (ws (List.replicate 64 0)) 121) = w9 at *
  go_loopw [10] (fun i wr => Inv4 w Kb Hb mb Wb ch blk cur 16 i wr) (fun i _ => 16 - (intOf i).toNat)
  case atStart => exact ⟨0, by omega, rfl, s9⟩
  case round =>
    clear s9
    obtain ⟨j, hj, rfl, s9⟩ := hrel
    have Hs := Lib.hid s9
    by_cases hlt4 : j < 16
    · have hn2p := HLL.out
      have hbl := Hblk.out
      have e1 : IntKind.i64.wrap (4 * (j : Int)) = 4 * (j : Int) := IntWalk.i64_in _ (by omega)
      have e2 : IntKind.i64.wrap ((A : Int) + 4 * (j : Int)) = (A : Int) + 4 * (j : Int) := IntWalk.i64_in _ (by omega)
      have e3 : IntKind.i64.wrap ((A : Int) + 4 * (j : Int) + 1) = (A : Int) + 4 * (j : Int) + 1 := IntWalk.i64_in _ (by omega)
      have e4 : IntKind.i64.wrap ((A : Int) + 4 * (j : Int) + 2) = (A : Int) + 4 * (j : Int) + 2 := IntWalk.i64_in _ (by omega)
      have e5 : IntKind.i64.wrap ((A : Int) + 4 * (j : Int) + 3) = (A : Int) + 4 * (j : Int) + 3 := IntWalk.i64_in _ (by omega)
      have gb : ∀ d, d < 4 → blk[j * 4 + d]?.getD 0 = p[A + 4 * j + d]?.getD 0 := fun d hd => by rw [Hblk2.out, blk_get p A (j * 4 + d) (by omega), show A + (j * 4 + d) = A + 4 * j + d by omega]
      have c0 : wr.cell? ⟨mb, A + 4 * j, none⟩ = some (.int .u8 (blk[j * 4]?.getD 0)) := by rw [s9.m.cell, Hcur.out _ (by omega)]; exact congrArg (fun x => some (Value.int .u8 x)) (gb 0 (by omega)).symm
      have c1 : wr.cell? ⟨mb, A + 4 * j + 1, none⟩ = some (.int .u8 (blk[j * 4 + 1]?.getD 0)) := by rw [s9.m.cell, Hcur.out _ (by omega), gb 1 (by omega)]
      have c2 : wr.cell? ⟨mb, A + 4 * j + 2, none⟩ = some (.int .u8 (blk[j * 4 + 2]?.getD 0)) := by rw [s9.m.cell, Hcur.out _ (by omega), gb 2 (by omega)]
      have c3 : wr.cell? ⟨mb, A + 4 * j + 3, none⟩ = some (.int .u8 (blk[j * 4 + 3]?.getD 0)) := by rw [s9.m.cell, Hcur.out _ (by omega), gb 3 (by omega)]
      have t0 : ((A : Int) + 4 * (j : Int)).toNat = A + 4 * j := by omega
      have t1 : ((A : Int) + 4 * (j : Int) + 1).toNat = A + 4 * j + 1 := by omega
      have t2 : ((A : Int) + 4 * (j : Int) + 2).toNat = A + 4 * j + 2 := by omega
      have t3 : ((A : Int) + 4 * (j : Int) + 3).toNat = A + 4 * j + 3 := by omega
      have l0 : (A : Int) + 4 * (j : Int) < (n2 : Int) := by omega
      have l1 : (A : Int) + 4 * (j : Int) + 1 < (n2 : Int) := by omega
      have l2 : (A : Int) + 4 * (j : Int) + 2 < (n2 : Int) := by omega
      have l3 : (A : Int) + 4 * (j : Int) + 3 < (n2 : Int) := by omega
      have p0 : 0 ≤ (A : Int) + 4 * (j : Int) := by omega
      have p1 : 0 ≤ (A : Int) + 4 * (j : Int) + 1 := by omega
      have p2 : 0 ≤ (A : Int) + 4 * (j : Int) + 2 := by omega
      have p3 : 0 ≤ (A : Int) + 4 * (j : Int) + 3 := by omega
      have q0 : (j : Int) < 64 := by omega
      have q1 : (0 : Int) ≤ (j : Int) := by omega
      have f0 := s9.w.frozen j
      have g0 := s9.w.get_ws j (by rw [schA_length _ _ (by omega)]; omega)
      have st := s9.setW b1 b2 b3 b4 j (word0 blk j)
      rw [schA_set blk j (by omega) _ (by rw [if_pos hlt4])] at st
      have q16 : (j : Int) < 16 := by omega
      clear gb hn2p hbl s9
      go_wp2
      go_still_tail 43, (by kernel_rfl)
      change wpList _ _ _ _ _ wr.drew
      go_wp2
      exact ⟨⟨j + 1, by omega, by go_num, st.drew⟩, by simp [intOf]; omega⟩
    · have ej : j = 16 := by omega
      have dj : decide ((j : Int) < 16) = false := by simp; omega
      have tj : ¬ ((j : Int) < 16) := by omega
      have s16 : S5 w Kb Hb mb Wb ch (schA blk 16) cur wr := by rw [ej] at s9; exact s9
      clear hlt4 hj ej s9 Hs
      go_wp2_with fail
      go_loopw [11] (fun i wr => ∃ j2 : Nat, 16 ≤ j2 ∧ j2 ≤ 64 ∧ i = .int .i64 j2 ∧ S5 w Kb Hb mb Wb ch (schA blk j2) cur wr) (fun i _ => 64 - (intOf i).toNat)
      case atStart => exact ⟨16, by omega, by omega, rfl, s16⟩
      case round =>
        clear s16
        obtain ⟨j2, h16, h64, rfl, s9⟩ := hrel
        by_cases hlt5 : j2 < 64
        · have q0 : (j2 : Int) < 64 := by omega
          have d15 : IntKind.i64.wrap ((j2 : Int) - 15) = ((j2 - 15 : Nat) : Int) := by rw [IntWalk.i64_in] <;> omega
          have d2 : IntKind.i64.wrap ((j2 : Int) - 2) = ((j2 - 2 : Nat) : Int) := by rw [IntWalk.i64_in] <;> omega
          have d16 : IntKind.i64.wrap ((j2 : Int) - 16) = ((j2 - 16 : Nat) : Int) := by rw [IntWalk.i64_in] <;> omega
          have d7 : IntKind.i64.wrap ((j2 : Int) - 7) = ((j2 - 7 : Nat) : Int) := by rw [IntWalk.i64_in] <;> omega
          have z15 : (0 : Int) ≤ ((j2 - 15 : Nat) : Int) := by omega
          have z2 : (0 : Int) ≤ ((j2 - 2 : Nat) : Int) := by omega
          have z16 : (0 : Int) ≤ ((j2 - 16 : Nat) : Int) := by omega
          have z7 : (0 : Int) ≤ ((j2 - 7 : Nat) : Int) := by omega
          have y15 : ((j2 - 15 : Nat) : Int) < 64 := by omega
          have y2 : ((j2 - 2 : Nat) : Int) < 64 := by omega
          have y16 : ((j2 - 16 : Nat) : Int) < 64 := by omega
          have y7 : ((j2 - 7 : Nat) : Int) < 64 := by omega
          have z0 : (0 : Int) ≤ (j2 : Int) := by omega
          have c15 := s9.cw h64 (j2 - 15) (by omega)
          go_wp2
          go_quiet ((go_at_call 69; exact Calls.quiet_of (rotI _ _ _ (by omega))))
          replace s9 := s9.drewN nq
          clear c15
          generalize wr.drewN nq = w11 at *
          clear nq
          have c2 := s9.cw h64 (j2 - 2) (by omega)
          go_wp2
          go_quiet ((go_at_call 69; exact Calls.quiet_of (rotI _ _ _ (by omega))))
          replace s9 := s9.drewN nq
          clear c2
          generalize w11.drewN nq = w12 at *
          clear nq
          have c16 := s9.cw h64 (j2 - 16) (by omega)
          have c7 := s9.cw h64 (j2 - 7) (by omega)
          have f0 := s9.w.frozen j2
          have g0 := s9.w.get_ws j2 (by rw [schA_length _ _ (by omega)]; omega)
          have st := s9.setW b1 b2 b3 b4 j2 (wordN (sch blk j2) j2)
          rw [schA_set blk j2 (by omega) _ (by rw [if_neg (by omega)])] at st
          clear s9
          go_wp2
          go_still_tail 15, (by kernel_rfl)
          change wpList _ _ _ _ _ w12.drew
          go_wp2
          exact ⟨⟨j2 + 1, by omega, by omega, by go_num, st.drew⟩, by simp [intOf]; omega⟩
        · have ej2 : j2 = 64 := by omega
          have dj2 : decide ((j2 : Int) < 64) = false := by simp; omega
          have tj2 : ¬ ((j2 : Int) < 64) := by omega
          have s64 : S5 w Kb Hb mb Wb ch (sch blk 64) cur wr := by rw [ej2, schA_full] at s9; exact s9
          have b5 : Wb < wr.heap.size := s64.w.lt
          clear hlt5 h16 h64 ej2 s9
          have az := At.new wr (ws (List.replicate 8 0)) 123
          rw [← zeros8] at az
          have zsz : (Tryz.prog.info? 123).map (·.size) = some (ws ch).size := by rw [ws_size, Hch.out]; exact sz27
          have Zo := Lib.hid (show (#[Value.int .u32 0, .int .u32 0, .int .u32 0, .int .u32 0, .int .u32 0, .int .u32 0, .int .u32 0, .int .u32 0] : Array Value).size = (ws ch).size by rw [ws_size, Hch.out]; rfl)
          go_upto_region 26 with (first | (refine wpList_load_row rfl 123 _ rfl Hb rfl 123 _ (0, 0) _ s64.h Tryz.underlying123 rfl zsz ?_) | (refine wpList_store_row rfl 123 _ _ rfl wr.heap.size (ws ch) rfl rfl 123 _ az zsz Zo.out (ws_one _) ?_))
          rw [World.setRow_alloc_new]
          simp only [Act.put]
          have v6 : At (wr.alloc (.cells (ws ch) 123)) wr.heap.size (ws (rnds ch blk 0).l) 123 := by rw [show (rnds ch blk 0).l = ch from St.of_l ch Hch.out]; exact At.new wr _ 123
          have s6 := s64.alloc (.cells (ws ch) 123)
          clear az zsz Zo s64
          obtain ⟨Vb, hVb⟩ : ∃ Vb, Vb = wr.heap.size := ⟨_, rfl⟩
          rw [← hVb] at v6 b5 ⊢
          clear hVb
          generalize wr.alloc (.cells (ws ch) 123) = w13 at *
          go_wp2_with fail
          go_loopw [15] (fun i wr => ∃ r : Nat, r ≤ 64 ∧ i = .int .i64 r ∧ S5 w Kb Hb mb Wb ch (sch blk 64) cur wr ∧ At wr Vb (ws (rnds ch blk r).l) 123) (fun i _ => 64 - (intOf i).toNat)
          case atStart => exact ⟨0, by omega, rfl, s6, v6⟩
          case round =>
            clear s6 v6
            obtain ⟨r, hr, rfl, s6, v6⟩ := hrel
            by_cases hlt6 : r < 64
            · have hrn : rnds ch blk (r + 1) = (rnds ch blk r).step (K[r]?.getD 0) ((sch blk 64)[r]?.getD 0) := rfl
              have Hrn := Lib.hid hrn; clear hrn
              generalize rnds ch blk r = s at *
              have q0 : (r : Int) < 64 := by omega
              have q1 : (0 : Int) ≤ (r : Int) := by omega
              have v4 : wr.cell? ⟨Vb, 4, none⟩ = some (.int .u32 s.e) := v6.get_ws 4 (by show 4 < 8; omega)
              have v0 : wr.cell? ⟨Vb, 0, none⟩ = some (.int .u32 s.a) := v6.get_ws 0 (by show 0 < 8; omega)
              go_wp2
              go_quiet (fail)
              replace s6 := s6.drewN nq
              replace v6 := v6.drewN nq
              clear v4 v0
              generalize wr.drewN nq = w14 at *
              clear nq
              have v7 : w14.cell? ⟨Vb, 7, none⟩ = some (.int .u32 s.h) := v6.get_ws 7 (by show 7 < 8; omega)
              have v5 : w14.cell? ⟨Vb, 5, none⟩ = some (.int .u32 s.f) := v6.get_ws 5 (by show 5 < 8; omega)
              have vg : w14.cell? ⟨Vb, 6, none⟩ = some (.int .u32 s.g) := v6.get_ws 6 (by show 6 < 8; omega)
              have kr := s6.k.get_ws r (by rw [K_length]; omega)
              have wr0 := s6.w.get_ws r (by rw [sch_length]; omega)
              go_wp2
              go_quiet ((go_at_call 69; exact Calls.quiet_of (rotI _ _ _ (by omega))))
              replace s6 := s6.drewN nq
              replace v6 := v6.drewN nq
              clear v7 v5 vg kr wr0
              generalize w14.drewN nq = w15 at *
              clear nq
              have v1 : w15.cell? ⟨Vb, 1, none⟩ = some (.int .u32 s.b) := v6.get_ws 1 (by show 1 < 8; omega)
              have v2 : w15.cell? ⟨Vb, 2, none⟩ = some (.int .u32 s.c) := v6.get_ws 2 (by show 2 < 8; omega)
              go_wp2
              go_quiet ((go_at_call 69; exact Calls.quiet_of (rotI _ _ _ (by omega))))
              replace s6 := s6.drewN nq
              replace v6 := v6.drewN nq
              clear v1 v2
              generalize w15.drewN nq = w16 at *
              clear nq
              obtain ⟨T1, hT1⟩ : ∃ T1, T1 = s.t1 (K[r]?.getD 0) ((sch blk 64)[r]?.getD 0) := ⟨_, rfl⟩
              obtain ⟨T2, hT2⟩ : ∃ T2, T2 = s.t2 := ⟨_, rfl⟩
              have g1 : (s.h + bits .xor .u32 (bits .xor .u32 (rotr s.e 6) (rotr s.e 11)) (rotr s.e 25) + bits .xor .u32 (bits .and .u32 s.e s.f) (bits .and .u32 (bits .xor .u32 IntKind.u32.max s.e) s.g) + K[r]?.getD 0 + (sch blk 64)[r]?.getD 0) % 4294967296 = T1 := by rw [hT1]; rfl
              have g2 : (bits .xor .u32 (bits .xor .u32 (rotr s.a 2) (rotr s.a 13)) (rotr s.a 22) + bits .xor .u32 (bits .xor .u32 (bits .and .u32 s.a s.b) (bits .and .u32 s.a s.c)) (bits .and .u32 s.b s.c)) % 4294967296 = T2 := by rw [hT2]; rfl
              have hstep : (rnds ch blk (r + 1)).l = [(T1 + T2) % 4294967296, s.a, s.b, s.c, (s.d + T1) % 4294967296, s.e, s.f, s.g] := by rw [Hrn.out, hT1, hT2]; rfl
              have Hstep := Lib.hid hstep; clear hstep hT1 hT2
              go_upto_region 32 with (fail)
              simp only [g1, g2]
              clear g1 g2
              have v0 : w16.cell? ⟨Vb, 0, none⟩ = some (.int .u32 s.a) := v6.get_ws 0 (by show 0 < 8; omega)
              have v1 : w16.cell? ⟨Vb, 1, none⟩ = some (.int .u32 s.b) := v6.get_ws 1 (by show 1 < 8; omega)
              have v2 : w16.cell? ⟨Vb, 2, none⟩ = some (.int .u32 s.c) := v6.get_ws 2 (by show 2 < 8; omega)
              have v3 : w16.cell? ⟨Vb, 3, none⟩ = some (.int .u32 s.d) := v6.get_ws 3 (by show 3 < 8; omega)
              have v4 : w16.cell? ⟨Vb, 4, none⟩ = some (.int .u32 s.e) := v6.get_ws 4 (by show 4 < 8; omega)
              have v5 : w16.cell? ⟨Vb, 5, none⟩ = some (.int .u32 s.f) := v6.get_ws 5 (by show 5 < 8; omega)
              have vg : w16.cell? ⟨Vb, 6, none⟩ = some (.int .u32 s.g) := v6.get_ws 6 (by show 6 < 8; omega)
              go_wp2_with (refine wpList_store_row rfl 123 _ _ rfl Vb (ws [(T1 + T2) % 4294967296, s.a, s.b, s.c, (s.d + T1) % 4294967296, s.e, s.f, s.g]) rfl rfl 123 _ v6 sz27 rfl (ws_one _) ?_)
              refine ⟨⟨r + 1, by omega, by go_num, s6.rowV b1 b2 b3 b4 Vb b5 _, ?_⟩, by simp [intOf]; omega⟩
              rw [Hstep.out]; exact v6.row _
            · have er : r = 64 := by omega
              have dr : decide ((r : Int) < 64) = false := by simp; omega
              have tr : ¬ ((r : Int) < 64) := by omega
              have v64 : At wr Vb (ws (rnds ch blk 64).l) 123 := by rw [er] at v6; exact v6
              clear hlt6 hr er v6
              go_wp2_with fail
              go_loopw [20] (fun i wr => ∃ q : Nat, q ≤ 8 ∧ i = .int .i64 q ∧ S5 w Kb Hb mb Wb (addA ch blk q) (sch blk 64) cur wr ∧ At wr Vb (ws (rnds ch blk 64).l) 123) (fun i _ => 8 - (intOf i).toNat)
              case atStart => exact ⟨0, by omega, rfl, by rw [addA_zero]; exact s6, v64⟩
              case round =>
                clear s6 v64
                obtain ⟨q, hq, rfl, s6, v6⟩ := hrel
                by_cases hlt7 : q < 8
                · have q0 : (q : Int) < 8 := by omega
                  have q1 : (0 : Int) ≤ (q : Int) := by omega
                  have h1 := s6.h.get_ws q (by rw [addA_length ch blk q Hch.out]; omega)
                  rw [addA_get ch blk q hlt7] at h1
                  have f1 := s6.h.frozen q
                  have h2 := v6.get_ws q (by show q < 8; omega)
                  have st := s6.setH b1 b2 b3 b4 q ((ch[q]?.getD 0 + ((rnds ch blk 64).l)[q]?.getD 0) % 4294967296)
                  rw [addA_set ch blk q Hch.out hlt7] at st
                  have sv := v6.set_other Hb q (.int .u32 ((ch[q]?.getD 0 + ((rnds ch blk 64).l)[q]?.getD 0) % 4294967296)) (by omega)
                  clear s6 v6
                  go_wp2
                  go_still_tail 9, (by kernel_rfl)
                  change wpList _ _ _ _ _ wr.drew
                  go_wp2
                  exact ⟨⟨q + 1, by omega, by go_num, st.drew, sv.drew⟩, by simp [intOf]; omega⟩
                · have eq8 : q = 8 := by omega
                  have dq : decide ((q : Int) < 8) = false := by simp; omega
                  have tq : ¬ ((q : Int) < 8) := by omega
                  have s8 : S5 w Kb Hb mb Wb (mixL ch blk) (sch blk 64) cur wr := by rw [eq8, addA_full ch blk Hch.out] at s6; exact s6
                  clear hlt7 hq eq8 s6 v6
                  go_wp2
                  exact hK _ _ _ _ _ _ _ _ _ _ _ _ _ _ _ _ _ _ _ _ _ _ _ _ _ _ _ _ _ _ _ _ _ _ _ _ _ _ _ _ _ _ _ _ _ _ _ _ _ _ _ _ _ _ _ _ _ _ _ _ _ _ _ _ _ _ _ _ _ _ _ _ _ _ _ _ _ _ _ _ _ _ _ _ _ _ _ _ _ _ _ _ _ _ _ _ _ _ _ _ _ _ _ _ _ _ _ _ _ _ _ _ _ _ _ _ _ _ _ _ _ _ _ _ _ _ _ _ _ _ _ _ _ _ _ _ _ _ _ _ _ _ _ _ _ _ _ _ _ _ _ _ _ _ _ _ _ _ _ _ _ _ _ _ _ _ _ _ _ _ _ _ _ _ _ _ _ _ _ _ _ _ _ _ _ _ _ _ _ _ _ _ _ _ _ _ _ _ _ _ _ _ _ _ _ _ _ _ _ _ _ _ _ _ _ s8.ext s8.k s8.h s8.m

end Go.Proofs.YtnhokjnmpdiokaaGreatDoor

namespace Go.Proofs.YtnhokjnmpdiokaaGreatDoor
open Go.RowKit Go.Sha

set_option maxHeartbeats 40000000 in
set_option maxRecDepth 100000 in
theorem ref_any (v : Value) (m : List Int) (w : World) (sm : Src w v m w.heap.size) (hl : m.length ≤ 30000) :
    Calls Tryz.prog 44 #[v] w fun e w' => ∃ v', e = .returned v' ∧ Below w.heap.size w w' ∧ OwnB w' w.heap.size v' (shaL m) := by
  obtain ⟨adm, capm, xm, ym, em, lm⟩ := sm
  have sm : Src w v m w.heap.size := ⟨adm, capm, xm, ym, em, lm⟩
  have HM := Lib.hid em
  rw [em]
  clear em lm
  go_enter Tryz.func44, Tryz.ntmps44
  go_wp2_with fail
  refine (rounds_any w).mono ?_
  rintro e w1 ⟨rfl, b1⟩
  have a1 := At.new w1 (ws (List.replicate 64 0)) 121
  rw [← zeros64] at a1
  go_upto_region 2 with (refine wpList_store_row rfl 121 _ _ rfl w1.heap.size (ws K) rfl rfl 121 _ a1 sz45 rfl (ws_one _) ?_)
  rw [World.setRow_alloc_new]
  simp only [Act.put]
  clear a1
  have a1 := At.new w1 (ws K) 121
  have e2 : Below w.heap.size w (w1.alloc (.cells (ws K) 121)) := b1.alloc b1.size _
  have z2 : (w1.alloc (.cells (ws K) 121)).heap.size = w1.heap.size + 1 := by simp
  have hKb : w.heap.size ≤ w1.heap.size := b1.size
  clear b1
  obtain ⟨Kb, hKe⟩ : ∃ Kb, Kb = w1.heap.size := ⟨_, rfl⟩
  rw [← hKe] at a1 z2 hKb ⊢
  clear hKe
  generalize w1.alloc (.cells (ws K) 121) = w2 at *
  have Z2 := Lib.hid z2; clear z2
  have a3 := At.new w2 (ws (List.replicate 8 0)) 123
  rw [← zeros8] at a3
  go_upto_region 3 with (refine wpList_store_row rfl 123 _ _ rfl w2.heap.size (ws iv) rfl rfl 123 _ a3 sz27 rfl (ws_one _) ?_)
  rw [World.setRow_alloc_new]
  simp only [Act.put]
  clear a3
  have a3 := At.new w2 (ws iv) 123
  have k3 := a1.alloc (.cells (ws iv) 123)
  have e3 : Below w.heap.size w (w2.alloc (.cells (ws iv) 123)) := e2.alloc e2.size _
  have z3 : (w2.alloc (.cells (ws iv) 123)).heap.size = w2.heap.size + 1 := by simp
  have hHb : Kb < w2.heap.size := by have := Z2.out; omega
  clear e2 a1 Z2
  obtain ⟨Hb, hHe⟩ : ∃ Hb, Hb = w2.heap.size := ⟨_, rfl⟩
  rw [← hHe] at a3 z3 hHb ⊢
  clear hHe
  generalize w2.alloc (.cells (ws iv) 123) = w3 at *
  have hown := OwnB.made w3
  have pre : Pre w Kb Hb w3.heap.size (w3.alloc (.cells #[] 5)) := ⟨e3.alloc e3.size _, k3.alloc _, a3.alloc _, hKb, hHb, by omega, by simp⟩
  have s3 : Src (w3.alloc (.cells #[] 5)) (.slice adm m.length capm) m Hb := by rw [← HM.out]; exact sm.of_below pre.ext (by omega)
  have Z3 := Lib.hid z3; clear z3 e3 k3 a3
  have hB0 : w3.heap.size ≤ (w3.alloc (.cells #[] 5)).heap.size := by simp
  have hBH : Hb < w3.heap.size := by have := Z3.out; omega
  go_upto_region 4 with (first
    | (refine list_append_bytes rfl (.tmp 25) (.tmp 26) 50 rfl Tryz.underlying50 u8zero w3.heap.size (.slice (some ⟨w3.heap.size, 0, none⟩) 0 0) [] rfl hown _ m Hb rfl s3 (by rw [List.length_nil]; omega) hB0 ?_; intro vx w4 ox gx; have pg4 := pre.grow (hown.grown gx hB0); have hz4 := pg4.hz; rw [List.nil_append] at ox)
    | (refine list_append_bytes rfl (.tmp 27) (.tmp 28) 50 rfl Tryz.underlying50 u8zero w3.heap.size vx m rfl (ox.ext (Ext.alloc w4 (.cells #[.int .u8 128] 5))) _ [128] Hb rfl (src_one w4 128 Hb (by omega)) (by rw [List.length_singleton]; omega) (by rw [size_alloc]; omega) ?_; intro vy w5 oy gy))
  have p5 : Pre w Kb Hb w3.heap.size w5 := (pg4.grow ((Below.refl _ _).alloc (by omega) (.cells #[.int .u8 128] 5))).grow ((ox.ext (Ext.alloc w4 (.cells #[.int .u8 128] 5))).grown gy (by rw [size_alloc]; omega))
  clear pg4 ox gx gy pre hown s3 hz4 hB0 Z3
  generalize w3.heap.size = B at *
  go_loopw [5] (fun v wr => Inv1m w Kb Hb B m v wr) (fun v _ => padZ m.length + m.length + 1 - sliceLen v)
  case atStart => exact ⟨0, by omega, oy, p5⟩
  case round =>
    clear oy p5
    obtain ⟨j, hj, oj, pj⟩ := hrel
    obtain ⟨adj, capj, rfl⟩ := oj.len
    have hlen : (m ++ 128 :: List.replicate j (0 : Int)).length = m.length + 1 + j := by simp; omega
    obtain ⟨n, hn⟩ : ∃ n, n = m.length + 1 + j := ⟨_, rfl⟩
    rw [hlen, ← hn] at oj ⊢
    have hzj := pj.hz
    have hBj := pj.hB
    have hpz := padSize_pos m.length
    have hpz2 : padZ m.length ≤ 63 := by unfold padZ; omega
    by_cases hlt : j < padZ m.length
    · have hne := padZ_not m.length j hlt
      have t1 : ((n : Int) % 64 != 56) = true := by rw [bne_iff_ne]; omega
      have n0 : (0 : Int) ≤ (n : Int) := by omega
      have Hn := Lib.hid hn; clear hn hne
      have Hl := Lib.hid hlen; clear hlen
      go_wp2_with (refine list_append_bytes rfl (.tmp 34) (.tmp 35) 50 rfl Tryz.underlying50 u8zero B (.slice adj n capj) (m ++ 128 :: List.replicate j 0) rfl (oj.ext (Ext.alloc wr (.cells #[.int .u8 0] 5))) _ [0] Hb rfl (src_one wr 0 Hb (by omega)) (by rw [Hl.out, List.length_singleton]; omega) (by rw [size_alloc]; omega) ?_; intro vy w6 oy gy)
      have p6 : Pre w Kb Hb B w6 := (pj.grow ((Below.refl _ _).alloc (by omega) (.cells #[.int .u8 0] 5))).grow ((oj.ext (Ext.alloc wr (.cells #[.int .u8 0] 5))).grown gy (by rw [size_alloc]; omega))
      have e6 : (m ++ 128 :: List.replicate j (0 : Int)) ++ [0] = m ++ 128 :: List.replicate (j + 1) 0 := by rw [List.replicate_succ']; simp
      rw [e6] at oy
      refine ⟨⟨j + 1, by omega, oy, p6⟩, ?_⟩
      obtain ⟨ay, cy, rfl⟩ := oy.len
      show _ - sliceLen (.slice ay _ cy) < _ - sliceLen (.slice adj n capj)
      simp only [sliceLen, List.length_append, List.length_cons, List.length_replicate]
      have := Hn.out
      omega
    · obtain rfl : j = padZ m.length := by omega
      have hend := padZ_end m.length
      have t1 : ((n : Int) % 64 != 56) = false := by rw [bne_eq_false_iff_eq]; omega
      have n0 : (0 : Int) ≤ (n : Int) := by omega
      have Hn := Lib.hid hn; clear hn hend hlt hj
      have Hl := Lib.hid hlen; clear hlen
      go_wp2_with fail
      go_loopw [5, 7] (fun v i wr => Inv2m w Kb Hb B m v i wr) (fun _ i _ => (intOf i + 1).toNat)
      case atStart => exact ⟨0, by omega, rfl, by simpa [cnts] using oj, pj⟩
      case round =>
        clear oj pj hzj hBj t1 n0
        obtain ⟨j, hj, rfl, oj, pj⟩ := hrel
        obtain ⟨adj, capj, rfl⟩ := oj.len
        have hlen : (m ++ 128 :: (List.replicate (padZ m.length) (0 : Int) ++ cnts m.length j)).length = m.length + 1 + padZ m.length + j := by simp [cnts_length]; omega
        obtain ⟨n2, hn2⟩ : ∃ n2, n2 = m.length + 1 + padZ m.length + j := ⟨_, rfl⟩
        rw [hlen, ← hn2] at oj ⊢
        have hzj := pj.hz
        have hBj := pj.hB
        by_cases hlt : j < 8
        · have s0 : (0 : Int) ≤ 7 - (j : Int) := by omega
          have s1 : (0 : Int) ≤ 8 * (7 - (j : Int)) := by omega
          have s2 : ((8 : Int) * (7 - (j : Int))).toNat = 8 * (7 - j) := by omega
          have s3 : min (8 * (7 - j)) 64 = 8 * (7 - j) := by omega
          have cb : (m.length : Int) * 8 / 2 ^ (8 * (7 - j)) % 256 = cntByte m.length (7 - j) := by
            unfold cntByte; rw [IntWalk.u64_in _ (by omega)]
          have Hcb := Lib.hid cb; clear cb
          have Hn2 := Lib.hid hn2; clear hn2
          have Hl2 := Lib.hid hlen; clear hlen
          go_wp2_with (refine list_append_bytes rfl (.tmp 45) (.tmp 51) 50 rfl Tryz.underlying50 u8zero B (.slice adj n2 capj) (m ++ 128 :: (List.replicate (padZ m.length) 0 ++ cnts m.length j)) rfl (oj.ext (Ext.alloc wr (.cells #[.int .u8 ((m.length : Int) * 8 / 2 ^ (8 * (7 - j)) % 256)] 5))) _ [(m.length : Int) * 8 / 2 ^ (8 * (7 - j)) % 256] Hb rfl (src_one wr _ Hb (by omega)) (by rw [Hl2.out, List.length_singleton]; omega) (by rw [size_alloc]; omega) ?_; intro vy w6 oy gy)
          have p6 : Pre w Kb Hb B w6 := (pj.grow ((Below.refl _ _).alloc (by omega) (.cells #[.int .u8 ((m.length : Int) * 8 / 2 ^ (8 * (7 - j)) % 256)] 5))).grow ((oj.ext (Ext.alloc wr (.cells #[.int .u8 ((m.length : Int) * 8 / 2 ^ (8 * (7 - j)) % 256)] 5))).grown gy (by rw [size_alloc]; omega))
          rw [Hcb.out, show (m ++ 128 :: (List.replicate (padZ m.length) (0 : Int) ++ cnts m.length j)) ++ [cntByte m.length (7 - j)] = m ++ 128 :: (List.replicate (padZ m.length) 0 ++ cnts m.length (j + 1)) by simp [cnts]] at oy
          exact ⟨⟨j + 1, by omega, congrArg (Value.int .i64) (by omega), oy, p6⟩, by simp [intOf]; omega⟩
        · have ej : j = 8 := by omega
          have tn : decide ((0 : Int) ≤ 7 - (j : Int)) = false := by simp; omega
          have tn2 : ¬ ((0 : Int) ≤ 7 - (j : Int)) := by omega
          rw [ej] at oj hlen hn2
          clear ej
          have ep : m ++ 128 :: (List.replicate (padZ m.length) (0 : Int) ++ cnts m.length 8) = m ++ padL m.length := by rw [padL_eq]
          rw [ep] at oj
          have hL : n2 = (m ++ padL m.length).length := by rw [hn2, ← hlen, ep]
          have hw64 : n2 % 64 = 0 := by rw [hL, List.length_append, padL_length]; exact padSize_whole _
          have hn2b : n2 ≤ 30100 := by omega
          have hn20 : 64 ≤ n2 := by omega
          obtain ⟨p, hp⟩ : ∃ p, p = m ++ padL m.length := ⟨_, rfl⟩
          rw [← hp] at oj hL
          obtain ⟨mb, capb, cur, hv, hmb, am, hcur⟩ := oj.block (by omega)
          obtain ⟨rfl, rfl⟩ : adj = some ⟨mb, 0, none⟩ ∧ capj = capb := by injection hv with h1 _ h3; exact ⟨h1, h3⟩
          have Hcur := Lib.hid hcur; clear hcur
          have Hp := Lib.hid hp; clear hp
          have HL := Lib.hid hL; clear hL
          clear hv ep hlen hn2 hlt hj
          have b1 : w.heap.size ≤ Kb := pj.hK
          have b2 : Kb < Hb := pj.hH
          have b3 : Hb < mb := by omega
          go_wp2_with fail
          go_loopw [8] (fun i wr => InvO w Kb Hb mb cur p i wr) (fun i _ => p.length - (intOf i).toNat)
          case atStart => exact ⟨0, by omega, rfl, pj.ext, pj.k, pj.h, am⟩
          case round =>
            clear oj pj hzj hBj am
            obtain ⟨k, hk, rfl, ex, ak, ah, am⟩ := hrel
            have hLL := HL.out
            obtain ⟨A, hA⟩ : ∃ A, A = 64 * k := ⟨_, rfl⟩
            rw [← hA] at hk ⊢
            by_cases hlt : A < n2
            · have hAb : A + 64 ≤ p.length := by omega
              have hch : (chainB (chunks k p)).length = 8 := chainB_length _
              have hst : chainB (chunks (k + 1) p) = mixL (chainB (chunks k p)) ((p.drop A).take 64) := by rw [hA]; exact chain_step k p
              have hblk := blk_length p A hAb
              have Hst := Lib.hid hst; clear hst
              have HA := Lib.hid hA; clear hA
              obtain ⟨ch, hch2⟩ : ∃ ch, ch = chainB (chunks k p) := ⟨_, rfl⟩
              obtain ⟨blk, hblk2⟩ : ∃ blk, blk = (p.drop A).take 64 := ⟨_, rfl⟩
              rw [← hch2] at ah hch
              rw [← hblk2] at hblk
              have Hch2 := Lib.hid hch2; clear hch2
              have Hblk2 := Lib.hid hblk2; clear hblk2
              have Hch := Lib.hid hch; clear hch
              have Hblk := Lib.hid hblk; clear hblk
              have i0 : (A : Int) < (n2 : Int) := by omega
              have HLL := Lib.hid hLL; clear hLL
              refine blk_round w wr Kb Hb mb A n2 capj cur p ch blk b1 b2 b3 hn2b hAb i0 Hcur HLL Hblk2 Hch Hblk ex ak ah am _ _ _ _ _ _ _ _ _ _ _ _ _ _ _ _ _ _ _ _ _ _ _ _ _ _ _ _ _ _ _ _ _ _ _ _ _ _ _ _ _ _ _ _ _ _ _ _ _ _ _ _ _ _ _ _ _ _ _ _ _ _ _ _ _ _ _ _ _ _ _ _ _ _ _ _ _ _ _ _ _ _ _ _ _ _ _ _ _ _ _ _ _ _ _ _ _ _ _ _ _ _ _ _ _ _ _ _ _ _ _ _ _ _ _ _ _ _ _ _ _ _ _ _ _ _ _ _ _ _ _ _ _ _ _ _ _ _ _ _ _ _ _ _ _ _ _ _ _ _ _ _ _ _ _ _ _ _ _ _ _ _ _ _ _ _ _ _ _ _ _ _ _ _ _ _ _ _ _ _ _ _ _ _ _ _ _ _ _ _ _ _ _ _ _ _ _ _ _ _ _ _ _ _ _ _ _ _ _ _ _ _ _ _ _ _ _ _ _ _ _ _ _ _ _ _ _ _ _ _ _ _ _ _ _ _ _ _ _ _ _ _ _ _ _ _ _ _ _ _ _ _ _ _ _ _ _ _ _ _ _ _ _ _ _ _ _ _ _ _ _ _ _ _ _ _ _ _ _ _ ?_
              intro u9 u10 u11 u12 u13 u14 u15 u16 u17 u18 u19 u20 u53 u54 u55 u56 u57 u58 u59 u60 u61 u62 u63 u64 u65 u66 u67 u68 u69 u70 u71 u72 u73 u74 u75 u76 u77 u78 u79 u80 u81 u82 u83 u84 u85 u86 u87 u88 u89 u90 u91 u92 u93 u94 u95 u96 u97 u98 u99 u100 u101 u102 u103 u104 u105 u106 u107 u108 u109 u110 u111 u112 u113 u114 u115 u116 u117 u118 u119 u120 u121 u122 u123 u124 u125 u126 u127 u128 u129 u130 u131 u132 u133 u134 u135 u136 u137 u138 u139 u140 u141 u142 u143 u144 u145 u146 u147 u148 u149 u150 u151 u152 u153 u154 u155 u156 u157 u158 u159 u160 u161 u162 u163 u164 u165 u166 u167 u168 u169 u170 u171 u172 u173 u174 u175 u176 u177 u178 u179 u180 u181 u182 u183 u184 u185 u186 u187 u188 u189 u190 u191 u192 u193 u194 u195 u196 u197 u198 u199 u200 u201 u202 u203 u204 u205 u206 u207 u208 u209 u210 u211 u212 u213 u214 u215 u216 u217 u218 u219 u220 u221 u222 u223 u224 u225 u226 u227 u228 u229 u230 u231 u232 u233 u234 u235 u236 u237 u238 u239 u240 u241 u242 u243 u244 u245 u246 u247 u248 u249 u250 u251 u252 u253 u254 w9 ex9 ak9 ah9 am9
              have hA64 := HA.out
              have hLL := HLL.out
              refine ⟨⟨_, _, _, _, _, _, _, _, _, _, _, _, _, _, _, _, _, _, _, _, _, _, _, _, _, _, _, _, _, _, _, _, _, _, _, _, _, _, _, _, _, _, _, _, _, _, _, _, _, _, _, _, _, _, _, _, _, _, _, _, _, _, _, _, _, _, _, _, _, _, _, _, _, _, _, _, _, _, _, _, _, _, _, _, _, _, _, _, _, _, _, _, _, _, _, _, _, _, _, _, _, _, _, _, _, _, _, _, _, _, _, _, _, _, _, _, _, _, _, _, _, _, _, _, _, _, _, _, _, _, _, _, _, _, _, _, _, _, _, _, _, _, _, _, _, _, _, _, _, _, _, _, _, _, _, _, _, _, _, _, _, _, _, _, _, _, _, _, _, _, _, _, _, _, _, _, _, _, _, _, _, _, _, _, _, _, _, _, _, _, _, _, _, _, _, _, _, _, _, _, _, _, _, _, _, _, _, _, _, _, _, _, _, _, _, ⟨k + 1, by omega, congrArg (Value.int .i64) (by omega), ex9, ak9, ?_, am9⟩, rfl⟩, by simp [intOf]; omega⟩
              rw [Hst.out, ← Hch2.out, ← Hblk2.out]
              exact ah9
            · have hAn : A = n2 := by omega
              have dA : decide ((A : Int) < (n2 : Int)) = false := by simp; omega
              have tA : ¬ ((A : Int) < (n2 : Int)) := by omega
              have hco : chainB (chunks k p) = chainOf p := by unfold chainOf; rw [show p.length / 64 = k by omega]
              rw [hco] at ah
              have hc8 : (chainOf p).length = 8 := chainOf_length p
              have hsh : shaL m = wordsB (chainOf p) := by unfold shaL; rw [← Hp.out]
              have Hsh := Lib.hid hsh; clear hsh hco
              have Hc8 := Lib.hid hc8; clear hc8
              generalize chainOf p = co at *
              have b9 : mb < wr.heap.size := am.lt
              clear hlt hAn hA hk hLL ak am
              go_wp2_with fail
              obtain ⟨Wz, hWz⟩ : ∃ Wz, Wz = wr.heap.size := ⟨_, rfl⟩
              rw [← hWz] at b9
              have hWz2 : Wz ≤ wr.heap.size := by omega
              clear hWz
              go_loopw [21, 22] (fun o i wq => ∃ q : Nat, q ≤ 8 ∧ i = .int .i64 q ∧ Below w.heap.size w wq ∧ At wq Hb (ws co) 123 ∧ Wz ≤ wq.heap.size ∧ OwnB wq Wz o (wordsB (co.take q))) (fun _ i _ => 8 - (intOf i).toNat)
              case atStart => exact ⟨0, by omega, rfl, ex, ah, hWz2, OwnB.nil _ _⟩
              case round =>
                clear ex ah
                obtain ⟨q, hq, rfl, ex, ah, hsz, oo⟩ := hrel
                by_cases hlt8 : q < 8
                · have q0 : (q : Int) < 8 := by omega
                  have q1 : (0 : Int) ≤ (q : Int) := by omega
                  have hc := ah.get_ws q (by rw [Hc8.out]; omega)
                  obtain ⟨x, hx⟩ : ∃ x, x = co[q]?.getD 0 := ⟨_, rfl⟩
                  rw [← hx] at hc
                  have ht : co.take (q + 1) = co.take q ++ [x] := by rw [List.take_succ_eq_append_getElem (by rw [Hc8.out]; omega), hx, List.getElem?_eq_getElem (by rw [Hc8.out]; omega)]; rfl
                  have Hx := Lib.hid hx; clear hx
                  have Ht := Lib.hid ht; clear ht
                  have hl4 : (wordsB (co.take q)).length = 4 * q := by rw [wordsB_length, List.length_take, Hc8.out]; omega
                  have Hl4 := Lib.hid hl4; clear hl4
                  obtain ⟨ado, capo, rfl⟩ := oo.len
                  rw [Hl4.out] at oo ⊢
                  go_wp2
                  have hoY : OwnB (wr.alloc (.cells (bs (wbytesW x)) 5)).drew Wz (.slice ado (4 * q) capo) (wordsB (co.take q)) := oo.ext (Below.drew (Ext.alloc wr (.cells (bs (wbytesW x)) 5)))
                  have rgY := (At.new wr (bs (wbytesW x)) 5).drew.range_bs
                  have Rg := Lib.hid rgY; clear rgY
                  have szY : Wz ≤ (wr.alloc (.cells (bs (wbytesW x)) 5)).drew.heap.size := by show Wz ≤ (wr.alloc (.cells (bs (wbytesW x)) 5)).heap.size; rw [size_alloc]; omega
                  have hcY : (wr.alloc (.cells (bs (wbytesW x)) 5)).drew.cell? ⟨Hb, q, none⟩ = some (.int .u32 x) := by
                    have h9 := (ah.alloc (.cells (bs (wbytesW x)) 5)).drew.get_ws q (by rw [Hc8.out]; omega)
                    rw [← Hx.out] at h9; exact h9
                  have HcY := Lib.hid hcY; clear hcY
                  go_region_held3 (fun w' => w'.cell? ⟨Hb, q, none⟩ = some (.int .u32 x)) (first | assumption | go_keep)
                    ((refine step_append_bytes rfl (.tmp 259) (.tmp 279) 50 rfl Tryz.underlying50 u8zero Wz (.slice ado (4 * q) capo) (wordsB (co.take q)) rfl (by exact hoY) ⟨wr.heap.size, 0, none⟩ (wbytesW x) 4 4 rfl rfl (by exact Rg.out) (by rw [Hl4.out]; show 4 * q + 4 ≤ _; omega) (by exact szY) ?_; intro vy w21 oy gy; have bg : Below Wz (wr.alloc (.cells (bs (wbytesW x)) 5)).drew w21 := hoY.grown gy szY; have s21 : w21.cell? ⟨Hb, q, none⟩ = some (.int .u32 x) := by rw [bg.cell (p := ⟨Hb, q, none⟩) (by show Hb < Wz; omega)]; exact HcY.out))
                  have e21 : Below w.heap.size w w21 := ((ex.alloc ex.size (.cells (bs (wbytesW x)) 5)).drew).trans (bg.mono (by omega))
                  have a21 : At w21 Hb (ws co) 123 := (ah.alloc (.cells (bs (wbytesW x)) 5)).drew.below bg (by omega)
                  rw [wbytesW_eq, ← wordsB_snoc, ← Ht.out] at oy
                  have z21 : Wz ≤ w21.heap.size := Nat.le_trans szY bg.size
                  clear hoY Rg szY HcY bg gy s21
                  go_wp2
                  exact ⟨⟨q + 1, by omega, by go_num, e21, a21, z21, oy⟩, by simp [intOf]; omega⟩
                · have eq8 : q = 8 := by omega
                  have dq : decide ((q : Int) < 8) = false := by simp; omega
                  have tq : ¬ ((q : Int) < 8) := by omega
                  have ot := oo.less (show w.heap.size ≤ Wz by omega)
                  rw [eq8, List.take_of_length_le (by rw [Hc8.out]; omega)] at ot
                  clear oo eq8 hlt8 hq
                  go_wp2
                  go_ret
                  rw [Hsh.out]
                  exact ⟨_, rfl, ex, ot⟩

end Go.Proofs.YtnhokjnmpdiokaaGreatDoor
