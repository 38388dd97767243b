/- The law's awake; the walk of VoteForms. -/
import Derived.Test.YtblhipdcgdhmiaaDoorHi
import Derived.Lib.SlBytesConst
namespace Go.Proofs.YtblhipdcgdhmiaaDoor
open Go.RowKit Go.Sha
set_option linter.unusedSimpArgs false
set_option linter.unusedVariables false

/-- What Encode answers. -/
def encO (g : Int) (m : List Int) : Option (List Int) := if mayP (g, m) then some (sealL (encP g.toNat m)) else none
def EP (w : World) (o : Option (List Int)) (e : Ending) (w' : World) : Prop := ∃ v, e = .returned (.tuple #[v, .int .i64 (if o.isSome then 0 else 1)]) ∧ Ext w w' ∧ Src w' v (o.getD []) w'.heap.size
theorem EPost.ep {w : World} {o : Option (List Int)} {e : Ending} {w' : World} (h : EPost w o e w') : EP w o e w' := by
  obtain ⟨v, n, rfl, h1, h2, h3⟩ := h
  cases o with
  | none => obtain ⟨rfl, rfl⟩ := h3 rfl; exact ⟨_, rfl, h1, src_nil _ _⟩
  | some m => obtain ⟨rfl, s⟩ := h2 m rfl; exact ⟨_, rfl, h1, s⟩
theorem enc_any (g : Int) (m : List Int) (v : Value) (w : World) (hK : KAt w) (h : Src w v m w.heap.size) :
    Calls Tryd.prog 8 #[.agg #[.int .i64 g, v]] w (EP w (encO g m)) := by
  unfold encO
  cases hm : mayP (g, m)
  · exact (enc_not g m v w h hm).mono fun _ _ q => q.ep
  · obtain ⟨h1, h2, h3⟩ := mayP_true hm
    obtain ⟨k, rfl⟩ := Int.eq_ofNat_of_zero_le (show 0 ≤ g by omega)
    exact (enc_ok k m v w hK h (by omega) (by omega) h3).mono fun _ _ q => q.ep
theorem renc_any (g : Int) (m : List Int) (v : Value) (w : World) (h : Src w v m w.heap.size) (hl : m.length ≤ 20000) :
    Calls Tryd.prog 9 #[.agg #[.int .i64 g, v]] w (EP w (encO g m)) := by
  unfold encO
  cases hm : mayP (g, m)
  · exact (renc_not g m v w h hm (by omega)).mono fun _ _ q => q.ep
  · obtain ⟨h1, h2, h3⟩ := mayP_true hm
    obtain ⟨k, rfl⟩ := Int.eq_ofNat_of_zero_le (show 0 ≤ g by omega)
    exact (renc_ok k m v w h (by omega) (by omega) hl).mono fun _ _ q => q.ep

/-- The pages that awake asks of. -/
def awA : List Int := sealL (encP 1 [97])
def awB : List Int := sealL (encP 2 [])
theorem byt97 : Byt [97] := by intro x hx; simp at hx; subst hx; omega
theorem awA_byt : Byt awA := seal_byt (encP_byt 1 byt97)
theorem awB_byt : Byt awB := seal_byt (encP_byt 2 byt_nil)
theorem awA_len : awA.length = 41 := by unfold awA; rw [sealL_length, encP_len]; rfl
theorem awB_len : awB.length = 40 := by unfold awB; rw [sealL_length, encP_len]; rfl
theorem awA_dec : decP awA = some (1, [97]) := dec_enc 1 [97] (by omega) (by omega) (by simp)
theorem awB_dec : decP awB = some (2, []) := dec_enc 2 [] (by omega) (by omega) (by simp)
theorem aw_pgs : pgs [awA, awB, awA] = [(1, [97]), (2, []), (1, [97])] := by
  unfold pgs
  simp only [List.map_cons, List.map_nil, awA_dec, awB_dec]
  rfl
theorem same12 : sameP (1, [97]) (2, []) = false := rfl
theorem may1 : mayP (1, [97]) = true := by unfold mayP; simp
theorem aw_vote : voteP awA awB awA = (1, [97]) := by
  unfold voteP
  rw [aw_pgs]
  have h : hit (1, [97]) [(2, []), (1, [97])] = true := by
    unfold hit
    simp [may1, sameP_self]
  simp only [electL, h, if_true]
theorem aw_min : voteM awA awB awA = [1] := by
  unfold voteM
  rw [aw_vote, aw_pgs]
  simp [othL, sameP_self, same12]
theorem nil_dec : decP [] = none := by unfold decP; rw [un_short [] (by simp)]
theorem nil_vote : voteP [] [] [] = (0, []) := by
  unfold voteP pgs
  simp only [List.map_cons, List.map_nil, nil_dec]
  simp [electL, hit, mayP, pgO]
theorem may0 : mayP (0, []) = false := by unfold mayP; simp
theorem src_lit (w : World) (c : Int) : Src (w.alloc (.cells #[.int .u8 c] 5 (1, 2))) (.slice (some ⟨w.heap.size, 0, none⟩) 1 1) [c] (w.alloc (.cells #[.int .u8 c] 5 (1, 2))).heap.size := by
  have h : (w.alloc (.cells #[.int .u8 c] 5 (1, 2))).heap[w.heap.size]? = some (.cells #[.int .u8 c] 5 (1, 2)) := heap_alloc_last w _
  refine ⟨_, 1, w.heap.size, 0, rfl, by simp, fun _ => rfl, by rw [size_alloc]; omega, fun j hj => ?_, fun h => by cases h⟩
  obtain rfl : j = 0 := by simpa using hj
  simp only [World.cell?, h]
  rfl
def AwPost (w : World) (e : Ending) (w' : World) : Prop := e = .returned (.bool true) ∧ Ext w w'

set_option maxHeartbeats 4000000 in
set_option maxRecDepth 100000 in
theorem awake_any (w : World) (hK : KAt w) : Calls Tryd.prog 7 #[] w (AwPost w) := by
  have kc := Lib.run_convert_bytes_const (P := Tryd.prog) w 22 5 #[.int .u8 97] 1 1 Tryd.underlying22 Tryd.underlying5
  have e0 : Ext w (w.alloc (.cells #[.int .u8 97] 5 (1, 2))) := Ext.alloc w _
  have s0 := src_lit w 97
  have E1 := enc_any 1 [97] _ _ (hK.below e0 hK.lt) s0
  have h1 : encO 1 [97] = some awA := by unfold encO; rw [may1]; rfl
  have h2 : encO 2 [] = some awB := by unfold encO; rw [show mayP (2, []) = true by unfold mayP; simp]; rfl
  rw [h1] at E1
  have H2 := Lib.hid h2
  have zone : (#[.int .i64 0, .slice none 0 0] : Array Value).all (·.oneCell') = true := by simp [Value.oneCell']
  have szz : (Tryd.prog.info? 25).map (·.size) = some (#[.int .i64 0, .slice none 0 0] : Array Value).size := szPage
  clear s0 h1 h2
  go_enter Tryd.func7, Tryd.ntmps7
  go_wp2_with fail
  refine E1.mono ?_
  rintro e w1 ⟨va, rfl, e1, sa⟩
  simp only [Option.isSome_some, if_true, Option.getD_some] at sa ⊢
  have e01 := e0.trans e1
  have E2 := enc_any 2 [] (.slice none 0 0) w1 (hK.below e01 hK.lt) (src_nil _ _)
  rw [H2.out] at E2
  clear E1 e0 e1 kc
  go_wp2_with fail
  refine E2.mono ?_
  rintro e w2 ⟨vb, rfl, e2, sb⟩
  simp only [Option.isSome_some, if_true, Option.getD_some] at sb ⊢
  have e02 := e01.trans e2
  have sa2 := sa.now e2
  have V1 := vote_any va vb va awA awB awA w2 (hK.below e02 hK.lt) sa2 sb sa2 ⟨⟨awA_byt, by rw [awA_len]; omega⟩, ⟨awB_byt, by rw [awB_len]; omega⟩, ⟨awA_byt, by rw [awA_len]; omega⟩⟩
  rw [aw_vote, aw_min] at V1
  have HK := Lib.hid hK
  clear E2 e01 e2 sa sb sa2 H2
  go_wp2_with fail
  refine V1.mono ?_
  rintro e w3 ⟨q1, _⟩
  obtain ⟨vp, vm, rfl, e3, s3, r3⟩ := q1 may1
  clear q1 V1
  have e03 := e02.trans e3
  obtain ⟨adp, capp, evp⟩ := s3.len
  simp only [List.length_cons, List.length_nil] at evp
  subst evp
  obtain ⟨adm, capm, mb, mo, evm, hm, hc⟩ := r3
  subst evm
  obtain rfl := hm (by simp)
  have c3 := hc 0 1 rfl
  simp only [List.length_cons, List.length_nil, Nat.add_zero] at c3 ⊢
  have one : (#[.int .i64 1, .slice adp (0 + 1) capp] : Array Value).all (·.oneCell') = true := by simp [Value.oneCell']
  have sz2 : (Tryd.prog.info? 25).map (·.size) = some (#[.int .i64 1, .slice adp (0 + 1) capp] : Array Value).size := szPage
  have e4 : Ext w3 (w3.alloc (.cells #[.int .i64 0, .slice none 0 0] 25)) := Ext.alloc w3 _
  have a4 := At.new w3 #[.int .i64 0, .slice none 0 0] 25
  have e5 := ext_only' e4 (Only.setRow w3.heap.size _ #[.int .i64 1, .slice adp (0 + 1) capp]) (Nat.le_refl _)
  have a5 : At ((w3.alloc (.cells #[.int .i64 0, .slice none 0 0] 25)).setRow w3.heap.size #[.int .i64 1, .slice adp (0 + 1) capp]) w3.heap.size #[.int .i64 1, .slice adp (0 + 1) capp] 25 := a4.row _
  have e05 := e03.trans e5
  have c5 : ((w3.alloc (.cells #[.int .i64 0, .slice none 0 0] 25)).setRow w3.heap.size #[.int .i64 1, .slice adp (0 + 1) capp]).cell? ⟨mb, mo, none⟩ = some (.int .i64 1) := by rw [Below.cell (p := ⟨mb, mo, none⟩) e5 (World.block_lt_of_cell? w3 _ c3)]; exact c3
  clear hm hc s3 e3 e02
  go_upto_region 4 with (refine wpList_store_row rfl 25 _ _ rfl w3.heap.size _ rfl rfl 25 _ a4 sz2 rfl one ?_)
  clear c3 e4 a4
  generalize (w3.alloc (.cells #[.int .i64 0, .slice none 0 0] 25)).setRow w3.heap.size #[.int .i64 1, .slice adp (0 + 1) capp] = w5 at *
  have V2 := vote_any (.slice none 0 0) (.slice none 0 0) (.slice none 0 0) [] [] [] w5 (HK.out.below e05 HK.out.lt) (src_nil _ _) (src_nil _ _) (src_nil _ _) ⟨⟨byt_nil, by simp⟩, ⟨byt_nil, by simp⟩, ⟨byt_nil, by simp⟩⟩
  rw [nil_vote] at V2
  go_wp2_with fail
  refine V2.mono ?_
  rintro e w6 ⟨_, q2⟩
  obtain ⟨vq, vn, rfl, e6, s6, r6⟩ := q2 may0
  clear q2 V2
  obtain ⟨adq, capq, evq⟩ := s6.len
  simp only [List.length_nil] at evq
  subst evq
  obtain ⟨adn, capn, nb, no, evn, hn, hc⟩ := r6
  subst evn
  have one0 : (#[.int .i64 0, .slice adq 0 capq] : Array Value).all (·.oneCell') = true := by simp [Value.oneCell']
  have sz0 : (Tryd.prog.info? 25).map (·.size) = some (#[.int .i64 0, .slice adq 0 capq] : Array Value).size := szPage
  have e7 : Ext w6 (w6.alloc (.cells #[.int .i64 0, .slice none 0 0] 25)) := Ext.alloc w6 _
  have a7 := At.new w6 #[.int .i64 0, .slice none 0 0] 25
  have e8 := ext_only' e7 (Only.setRow w6.heap.size _ #[.int .i64 0, .slice adq 0 capq]) (Nat.le_refl _)
  have e58 := e6.trans e8
  have a58 := at_ext a5 e58
  have c8 : ((w6.alloc (.cells #[.int .i64 0, .slice none 0 0] 25)).setRow w6.heap.size #[.int .i64 0, .slice adq 0 capq]).cell? ⟨mb, mo, none⟩ = some (.int .i64 1) := by rw [Below.cell (p := ⟨mb, mo, none⟩) e58 (World.block_lt_of_cell? w5 _ c5)]; exact c5
  have e08 := e05.trans e58
  simp only [List.length_nil] at hn ⊢
  clear hn hc s6 e6 c5 a5
  go_upto_region 5 with (refine wpList_store_row rfl 25 _ _ rfl w6.heap.size _ rfl rfl 25 _ a7 sz0 rfl one0 ?_)
  clear e7 a7 e8 e58
  generalize (w6.alloc (.cells #[.int .i64 0, .slice none 0 0] 25)).setRow w6.heap.size #[.int .i64 0, .slice adq 0 capq] = w8 at *
  have f0 := a58.cell 0
  go_wp2
  go_ret
  exact ⟨rfl, e08⟩
end Go.Proofs.YtblhipdcgdhmiaaDoor
