/- refsOf of whatever bytes. No conditions but those named: a contract. ofAnImage of whatever bytes. No conditions but those named: a contract. What three copies say where two of them are the page of an image. No conditions: definitions and lemmas. -/
import Derived.Test.YtnhokjnmpdiokaaGreatDoorKb
namespace Go.Proofs.YtnhokjnmpdiokaaGreatDoor
open Go.RowKit Go.Sha Go.Pth
set_option linter.unusedSimpArgs false
set_option linter.unusedVariables false

theorem chg_only {g : Nat} {w w' : World} (o : Only g w w') : V.Chg (fun i => i = g) w w' := ⟨o.os, o.tape, o.output, o.size, fun i hi hn => o.block i hi hn⟩
theorem OwnR.chg {w w' : World} {base g : Nat} {v : Value} {l : List RV} (h : OwnR w base v l) (c : V.Chg (fun i => i = g) w w') (hg : g < base) : OwnR w' base v l := by
  obtain ⟨⟨h1, h2⟩, h3⟩ := h
  refine ⟨⟨h1, ?_⟩, fun x hx bh hb => ?_⟩
  · rcases h2 with h2 | ⟨q, cap, cur, hv, hq, hw, r⟩
    · exact Or.inl h2
    · exact Or.inr ⟨q, cap, cur, hv, hq, c.at (c := cur) (t := 52) hw (by omega), r⟩
  · have a : Apt (fun i => i = g ∨ i = bh) w x.v x.r := fun i hi => by
      rcases hi with (rfl | rfl) | hi
      · exact h3 x hx i (Or.inl hg)
      · exact h3 x hx i (hb.imp_right (Or.imp_right fun k => Nat.le_trans c.size k))
      · exact h3 x hx i (Or.inr (Or.inr hi))
    exact (a.chg c fun i hi => Or.inl (Or.inl hi)) bh (Or.inl (Or.inr rfl))
theorem OwnR.less {w : World} {base base' : Nat} {v : Value} {l : List RV} (h : OwnR w base v l) (hb : base' ≤ base) : OwnR w base' v l := by
  obtain ⟨⟨h1, h2⟩, h3⟩ := h
  refine ⟨⟨h1, ?_⟩, fun x hx bh k => h3 x hx bh (k.imp_left fun q => by omega)⟩
  rcases h2 with h2 | ⟨q, cap, cur, hv, hq, r⟩
  · exact Or.inl h2
  · exact Or.inr ⟨q, cap, cur, hv, by omega, r⟩
def RoP (w : World) (o : Option (List RD)) (e : Ending) (w' : World) : Prop := match o with
  | none => e = .returned (.tuple #[.slice none 0 0, .bool false]) ∧ Ext w w'
  | some ds => ∃ v l', e = .returned (.tuple #[v, .bool true]) ∧ Ext w w' ∧ OwnR w' w.heap.size v l' ∧ l'.map RV.d = ds
def InvRx (w : World) (B g : Nat) (R : List RD × Int) (v : Value) (wr : World) : Prop := ∃ (n : Nat) (l : List Int) (e : Int) (l' : List RV),
  Q.RSt wr g l e ∧ Byt l ∧ l.length ≤ n ∧ OwnR wr B v l' ∧ (l'.map RV.d ++ (runR n l e).1, (runR n l e).2) = R ∧ Ext w wr ∧ l'.length + l.length ≤ 100000 ∧ B ≤ wr.heap.size
noncomputable def leftM (g : Nat) (w : World) : Nat := match w.cell? ⟨g, 0, none⟩ with
  | some (.slice _ n _) => n
  | _ => 0
theorem leftM_eq {w : World} {g : Nat} {l : List Int} {e : Int} (h : Q.RSt w g l e) : leftM g w = l.length := by
  obtain ⟨v, h1, h2, h3⟩ := h
  obtain ⟨ad, cap, rfl⟩ := (h2 g (Nat.le_refl g)).len
  have c1 : w.cell? ⟨g, 0, none⟩ = some (.slice ad l.length cap) := by rw [h1.cell]; rfl
  unfold leftM; rw [c1]
set_option maxRecDepth 100000 in
set_option maxHeartbeats 32000000 in
theorem refsOf_any (v : Value) (m : List Int) (w : World) (h : Sha.Src w v m w.heap.size) (hb : Byt m) (hl : m.length ≤ 100000) :
    Calls Tryz.prog 65 #[v] w (RoP w (refsF m)) := by
  have NR := Lib.hid (Q.newr_any v m _ w h (by omega))
  obtain ⟨adv, capv, ev⟩ := h.len
  have HB := Lib.hid hb
  obtain ⟨NM, hNM⟩ : ∃ n, n = m.length := ⟨_, rfl⟩
  rw [← hNM] at ev hl
  have HN := Lib.hid hNM
  clear h hb hNM
  subst ev
  obtain ⟨R, hR⟩ : ∃ R, R = runR m.length m 0 := ⟨_, rfl⟩
  have HR := Lib.hid hR
  have HF := Lib.hid (show refsF m = if R.2 = 0 ∧ imageL R.1 = true then some R.1 else none by rw [hR]; rfl)
  clear hR
  go_enter Tryz.func65, Tryz.ntmps65
  go_wp2_with fail
  refine (NR.out).mono ?_
  rintro e w1 ⟨g, rfl, e1, rs, hg⟩
  have hgB := rs.lt
  have E1 := Lib.hid e1
  have RS := Lib.hid rs
  obtain ⟨B, hB⟩ : ∃ B, B = w1.heap.size := ⟨_, rfl⟩
  rw [← hB] at hgB
  have HBz := Lib.hid (show w.heap.size ≤ B by rw [hB]; exact e1.size)
  have HBe := Lib.hid hB
  have HBg := Lib.hid (show w.heap.size ≤ g from hg)
  clear e1 rs NR hB
  go_wp2
  go_loopw [5] (fun v wr => InvRx w B g R v wr) (fun _ wr => leftM g wr)
  case atStart => exact ⟨m.length, m, 0, [], RS.out, HB.out, Nat.le_refl _, OwnR.nil _ _, by rw [← HR.out]; rfl, E1.out, by rw [← HN.out]; simpa using hl, by rw [HBe.out]; exact Nat.le_refl _⟩
  case round =>
    obtain ⟨n, l, er, l', rst, byt, hn, op, hr, ex, hlen, hBw⟩ := hrel
    have LM := Lib.hid (leftM_eq rst)
    have LF := Lib.hid (Q.left_any g l er wr rst)
    obtain ⟨adl, capl, el⟩ := op.len
    obtain ⟨LL, hLL⟩ : ∃ n, n = l'.length := ⟨_, rfl⟩
    rw [← hLL] at el
    subst el
    obtain ⟨NL, hNL⟩ : ∃ n, n = l.length := ⟨_, rfl⟩
    rw [← hNL] at LF
    have HNL := Lib.hid hNL
    have HLL := Lib.hid hLL
    have RST := Lib.hid rst
    have HBY := Lib.hid byt
    have OP := Lib.hid op
    have EX := Lib.hid ex
    have HRR := Lib.hid hr
    have HLN := Lib.hid (And.intro hn (And.intro hlen hBw))
    clear rst byt op ex hr hn hlen hBw hNL hLL
    by_cases h0 : 0 < NL
    · have d0 : decide (0 < NL) = true := decide_eq_true h0
      have i0 : (0 : Int) < (NL : Int) := by omega
      clear h0
      go_wp2_with fail
      refine (LF.out).mono ?_
      rintro e w2' ⟨rfl, rfl⟩
      have e2 : Ext wr (wr.alloc (.cells #[.string ⟨#[]⟩, .int .i64 0, .int .i64 0, .int .i64 0, .int .u64 0, .slice none 0 0] 52)) := Ext.alloc wr _
      have A2 := At.new wr #[.string ⟨#[]⟩, .int .i64 0, .int .i64 0, .int .i64 0, .int .u64 0, .slice none 0 0] 52
      have hgl := RST.out.lt
      obtain ⟨g6, hg6⟩ : ∃ k, k = wr.heap.size := ⟨_, rfl⟩
      rw [← hg6] at A2 hgl
      have HG6 := Lib.hid hg6
      have hsz : g6 < (wr.alloc (.cells #[.string ⟨#[]⟩, .int .i64 0, .int .i64 0, .int .i64 0, .int .u64 0, .slice none 0 0] 52)).heap.size := A2.lt
      have R2 := Lib.hid (RST.out.below e2)
      have C2 := Lib.hid (V.Chg.of_ext (X := fun i => i = g) e2)
      obtain ⟨⟨p, l1, e1⟩, h1⟩ : ∃ s, rCnt l er 60 = s := ⟨_, rfl⟩
      obtain ⟨⟨k, l2, e2'⟩, h2⟩ : ∃ s, rNum l1 e1 = s := ⟨_, rfl⟩
      obtain ⟨⟨z, l3, e3⟩, h3⟩ : ∃ s, rNum l2 e2' = s := ⟨_, rfl⟩
      obtain ⟨⟨mm, l4, e4⟩, h4⟩ : ∃ s, rNum l3 e3 = s := ⟨_, rfl⟩
      obtain ⟨⟨tt, l5, e5⟩, h5⟩ : ∃ s, rWord l4 e4 = s := ⟨_, rfl⟩
      obtain ⟨⟨r, l6, e6⟩, h6⟩ : ∃ s, rCnt l5 e5 32 = s := ⟨_, rfl⟩
      have b1 := (rCnt_byt l er 60 HBY.out).1; rw [h1] at b1
      have b2 := rNum_byt l1 e1 b1; rw [h2] at b2
      have b3 := rNum_byt l2 e2' b2; rw [h3] at b3
      have b4 := rNum_byt l3 e3 b3; rw [h4] at b4
      have b5 := rWord_byt l4 e4 b4; rw [h5] at b5
      obtain ⟨ps, hps⟩ : ∃ q, q = strOfNums p := ⟨_, rfl⟩
      have STR := Lib.hid (show stR l er = (⟨ps, k, z, mm, tt, r⟩, l6, e6) by rw [hps]; exact stR_eq h1 h2 h3 h4 h5 h6)
      have TX := Lib.hid (fun (w' : World) (h : Q.RSt w' g l er) => by have := Q.text_any g l er 60 w' h HBY.out; rw [h1] at this; simp only at this; rw [← hps] at this; exact this)
      have N1 := Lib.hid (fun (w' : World) (h : Q.RSt w' g l1 e1) => by have := Q.num_any g l1 e1 w' h b1; rwa [h2] at this)
      have N2 := Lib.hid (fun (w' : World) (h : Q.RSt w' g l2 e2') => by have := Q.num_any g l2 e2' w' h b2; rwa [h3] at this)
      have N3 := Lib.hid (fun (w' : World) (h : Q.RSt w' g l3 e3) => by have := Q.num_any g l3 e3 w' h b3; rwa [h4] at this)
      have WD := Lib.hid (fun (w' : World) (h : Q.RSt w' g l4 e4) => by have := Q.word_any g l4 e4 w' h b4; rwa [h5] at this)
      have BY := Lib.hid (fun (w' : World) (h : Q.RSt w' g l5 e5) => by have := Q.rbytes_any g l5 e5 32 w' h b5 (by omega); rwa [h6] at this)
      clear h1 h2 h3 h4 h5 h6 b1 b2 b3 b4 b5 e2 LF
      clear hps
      go_upto_region 5 with fail
      rw [← hg6]
      clear hg6
      generalize wr.alloc (.cells #[.string ⟨#[]⟩, .int .i64 0, .int .i64 0, .int .i64 0, .int .u64 0, .slice none 0 0] 52) = w2 at *
      have hgn : g6 ≠ g := by omega
      have T2 := Lib.hid (TX.out _ R2.out)
      go_wp2_with fail
      refine (T2.out).mono ?_
      rintro e w3 ⟨rfl, o3, r3⟩
      have A3 := o3.at A2 hgn
      have z3 := A3.cell 0
      have y3 := A3.frozen 0
      have A4 := A3.set 0 (.string ps)
      have R4 := Lib.hid (r3.only (Only.set g6 0 w3 (.string ps)) hgl)
      have C4 := Lib.hid ((C2.out.trans (chg_only o3) fun i _ q => q).trans (V.Chg.setCell w3 g6 0 (.string ps)) fun i hi q => by have := HG6.out; omega)
      clear o3 r3 A2 R2 C2 T2 TX
      go_upto_region 6 with fail
      clear z3 y3 A3
      generalize w3.setCell ⟨g6, 0, none⟩ (.string ps) = w4 at *
      have N4 := Lib.hid (N1.out _ R4.out)
      go_wp2_with fail
      refine (N4.out).mono ?_
      rintro e w5 ⟨rfl, o5, r5⟩
      have A5 := o5.at A4 hgn
      have C5 := Lib.hid (C4.out.trans (chg_only o5) fun i _ q => q)
      have N5 := Lib.hid (N2.out _ r5)
      clear N4 o5 r5 A4 C4 R4
      go_wp2_with fail
      refine (N5.out).mono ?_
      rintro e w6 ⟨rfl, o6, r6⟩
      have A6 := o6.at A5 hgn
      have C6 := Lib.hid (C5.out.trans (chg_only o6) fun i _ q => q)
      have N6 := Lib.hid (N3.out _ r6)
      clear N5 o6 r6 A5 C5
      go_wp2_with fail
      refine (N6.out).mono ?_
      rintro e w7 ⟨rfl, o7, r7⟩
      have A7 := o7.at A6 hgn
      have C7 := Lib.hid (C6.out.trans (chg_only o7) fun i _ q => q)
      clear N6 o7 A6 C6
      have z1 := A7.cell 1
      have y1 := A7.frozen 1
      have B1 := A7.set 1 (.int .i64 k)
      have z2 := B1.cell 2
      have y2 := B1.frozen 2
      have B2 := B1.set 2 (.int .i64 z)
      have z3 := B2.cell 3
      have y3 := B2.frozen 3
      have B3 := B2.set 3 (.int .i64 mm)
      have R8 := Lib.hid (((r7.only (Only.set g6 1 _ (.int .i64 k)) hgl).only (Only.set g6 2 _ (.int .i64 z)) hgl).only (Only.set g6 3 _ (.int .i64 mm)) hgl)
      have C8 := Lib.hid (((C7.out.trans (V.Chg.setCell w7 g6 1 (.int .i64 k)) fun i hi q => by have := HG6.out; omega).trans (V.Chg.setCell _ g6 2 (.int .i64 z)) fun i hi q => by have := HG6.out; omega).trans (V.Chg.setCell _ g6 3 (.int .i64 mm)) fun i hi q => by have := HG6.out; omega)
      clear r7 C7
      go_upto_region 7 with fail
      clear z1 y1 z2 y2 z3 y3 A7 B1 B2
      generalize ((w7.setCell ⟨g6, 1, none⟩ (.int .i64 k)).setCell ⟨g6, 2, none⟩ (.int .i64 z)).setCell ⟨g6, 3, none⟩ (.int .i64 mm) = w8 at *
      have W8 := Lib.hid (WD.out _ R8.out)
      go_wp2_with fail
      refine (W8.out).mono ?_
      rintro e w9 ⟨rfl, o9, r9⟩
      have A9 := o9.at B3 hgn
      have z4 := A9.cell 4
      have y4 := A9.frozen 4
      have A10 := A9.set 4 (.int .u64 tt)
      have R10 := Lib.hid (r9.only (Only.set g6 4 _ (.int .u64 tt)) hgl)
      have C10 := Lib.hid ((C8.out.trans (chg_only o9) fun i _ q => q).trans (V.Chg.setCell w9 g6 4 (.int .u64 tt)) fun i hi q => by have := HG6.out; omega)
      clear o9 r9 B3 C8 R8 W8
      go_upto_region 8 with fail
      clear z4 y4 A9
      generalize w9.setCell ⟨g6, 4, none⟩ (.int .u64 tt) = w10 at *
      have B10 := Lib.hid (BY.out _ R10.out)
      have hg10 := A10.lt
      go_wp2_with fail
      refine (B10.out).mono ?_
      rintro e w11 ⟨u, rfl, o11, r11, ow⟩
      obtain ⟨adu, capu, eu⟩ := ow.len
      obtain ⟨RN, hRN⟩ : ∃ q, q = r.length := ⟨_, rfl⟩
      rw [← hRN] at eu
      subst eu
      have A11 := o11.at A10 hgn
      have z5 := A11.cell 5
      have y5 := A11.frozen 5
      have A12 := A11.set 5 (.slice adu RN capu)
      have o12 := Only.set g6 5 w11 (.slice adu RN capu)
      have R12 := Lib.hid (r11.only o12 hgl)
      have C11 := C10.out.trans (chg_only o11) fun i _ q => q
      have C12 := Lib.hid (C11.trans (V.Chg.setCell w11 g6 5 (.slice adu RN capu)) fun i hi q => by have := HG6.out; omega)
      have SU := Lib.hid (show ∀ bh, (bh < B ∨ (.slice adl LL capl : Value).ownBlock = some bh ∨ (w11.setCell ⟨g6, 5, none⟩ (.slice adu RN capu)).heap.size ≤ bh) → Sha.Src (w11.setCell ⟨g6, 5, none⟩ (.slice adu RN capu)) (.slice adu RN capu) r bh from fun bh hbh => by
        refine src_keep (ow.srcs g6 (Or.inl hg10)) (ow.srcs bh ?_) o12
        rcases hbh with q | q | q
        · exact Or.inl (Nat.lt_of_lt_of_le q (Nat.le_trans HLN.out.2.2 C10.out.size))
        · exact Or.inl (Nat.lt_of_lt_of_le (OP.out.block bh q).2 C10.out.size)
        · exact Or.inr (Nat.le_trans o12.size q))
      clear o11 r11 ow hRN C11 A10 R10 C10 B10 o12 hg10
      go_upto_region 9 with fail
      clear z5 y5 A11
      generalize w11.setCell ⟨g6, 5, none⟩ (.slice adu RN capu) = w12 at *
      have e13 : Ext w12 (w12.alloc (.cells #[.string ps, .int .i64 k, .int .i64 z, .int .i64 mm, .int .u64 tt, .slice adu RN capu] 52)) := Ext.alloc _ _
      have a13 := At.new w12 #[.string ps, .int .i64 k, .int .i64 z, .int .i64 mm, .int .u64 tt, .slice adu RN capu] 52
      have OP13 := Lib.hid ((OP.out.chg C12.out hgB).ext e13)
      have R13 := Lib.hid (R12.out.below e13)
      have X13 := Lib.hid (show Ext w (w12.alloc (.cells #[.string ps, .int .i64 k, .int .i64 z, .int .i64 mm, .int .u64 tt, .slice adu RN capu] 52)) from Below.trans (show Below w.heap.size w w12 from ⟨C12.out.os.trans EX.out.os, C12.out.tape.trans EX.out.tape, C12.out.output.trans EX.out.output, Nat.le_trans EX.out.size C12.out.size, fun i hi => by
        rw [C12.out.block i (Nat.lt_of_lt_of_le hi EX.out.size) (by have := HBg.out; omega)]; exact EX.out.block i hi⟩) (e13.mono (Nat.le_trans EX.out.size C12.out.size)))
      have HC := Lib.hid (show ∀ j y, (rcs ⟨ps, k, z, mm, tt, .slice adu RN capu, r⟩)[j]? = some y → (w12.alloc (.cells #[.string ps, .int .i64 k, .int .i64 z, .int .i64 mm, .int .u64 tt, .slice adu RN capu] 52)).cell? ⟨w12.heap.size, j, none⟩ = some y from fun j y hu => by rw [a13.cell]; simpa [rcs] using hu)
      have HS := Lib.hid (show ∀ bh, (bh < B ∨ (.slice adl LL capl : Value).ownBlock = some bh ∨ (w12.alloc (.cells #[.string ps, .int .i64 k, .int .i64 z, .int .i64 mm, .int .u64 tt, .slice adu RN capu] 52)).heap.size ≤ bh) → Sha.Src (w12.alloc (.cells #[.string ps, .int .i64 k, .int .i64 z, .int .i64 mm, .int .u64 tt, .slice adu RN capu] 52)) (.slice adu RN capu) r bh from fun bh hbh =>
        (SU.out bh (hbh.imp_right (Or.imp_right fun q => Nat.le_trans e13.size q))).ext e13)
      have HZ := Lib.hid (Nat.le_trans HLN.out.2.2 (Nat.le_trans C12.out.size e13.size))
      have HL5 := Lib.hid (show l'.length < 1099511627776 by have := HLN.out.2.1; omega)
      have SL := Lib.hid (show l6.length < l.length ∧ Byt l6 by have q := stR_less l er (by rw [← HNL.out]; omega) HBY.out; rw [STR.out] at q; exact q)
      clear e13 a13 SU
      go_wp2_with (first | (refine wpList_load_row rfl 52 _ rfl g6 rfl 52 _ (0, 0) _ A12 Tryz.underlying52 rfl szRef ?_) | (refine list_append_r rfl (.tmp 30) (.tmp 32) 22 rfl Tryz.underlying22 B (.slice adl LL capl) l' rfl OP13.out w12.heap.size 1 ⟨ps, k, z, mm, tt, .slice adu RN capu, r⟩ rfl HC.out rfl HS.out HL5.out HZ.out ?_; intro v14 w14 op14 b14))
      have R14 := R13.out.low b14 hgB
      obtain ⟨n', hn'⟩ : ∃ q, n = q + 1 := ⟨n - 1, by have := HLN.out.1; have := HNL.out; omega⟩
      have hRR := HRR.out
      rw [hn', runR_more n' l er (by rw [← HNL.out]; omega), STR.out] at hRR
      refine ⟨⟨n', l6, e6, _, R14, SL.out.2, by have := HLN.out.1; have := SL.out.1; omega, op14, ?_, Below.trans X13.out (b14.mono HBz.out), by have := HLN.out.2.1; have := SL.out.1; simp only [List.length_append, List.length_cons, List.length_nil]; omega, Nat.le_trans HZ.out b14.size⟩, ?_⟩
      · rw [← hRR]; simp [RV.d]
      · rw [leftM_eq R14, LM.out]; exact SL.out.1
    · obtain rfl : NL = 0 := by omega
      have ER := Lib.hid (Q.err_any g l er wr RST.out)
      have hl0 := HNL.out
      have hR0 := HRR.out
      rw [runR_nil n l er hl0.symm] at hR0
      have MY := Lib.hid (may_any (fun _ => False) (.slice adl LL capl) l' wr (OP.out.rr fun _ k => k.elim) (by have := HLN.out; omega))
      have HF2 := Lib.hid (show refsF m = if er = 0 ∧ imageL (l'.map RV.d) = true then some (l'.map RV.d) else none by rw [HF.out, ← hR0]; simp)
      clear hl0 hR0 h0
      go_wp2_with fail
      refine (LF.out).mono ?_
      rintro e w2' ⟨rfl, rfl⟩
      by_cases he : er = 0
      · subst he
        go_wp2_with fail
        refine (ER.out).mono ?_
        rintro e w2' ⟨rfl, rfl⟩
        go_wp2_with fail
        refine (MY.out).mono ?_
        rintro e w3 ⟨rfl, e3⟩
        have E3 := Lib.hid e3
        clear e3 MY ER LF
        by_cases hi : imageL (l'.map RV.d) = true
        · rw [hi]
          have F := Lib.hid (show RoP w (refsF m) (.returned (.tuple #[.slice adl LL capl, .bool true])) w3 by
            rw [HF2.out, if_pos (by simp [hi])]
            exact ⟨_, l', rfl, EX.out.trans E3.out, ((OP.out).ext E3.out).less HBz.out, rfl⟩)
          clear hi
          go_wp2
          go_ret2
          exact F.out
        · have hi : imageL (l'.map RV.d) = false := by simpa using hi
          rw [hi]
          have F := Lib.hid (show RoP w (refsF m) (.returned (.tuple #[.slice none 0 0, .bool false])) w3 by
            rw [HF2.out, if_neg (by rw [hi]; simp)]
            exact ⟨rfl, EX.out.trans E3.out⟩)
          clear hi
          go_wp2
          go_ret2
          exact F.out
      · have t1 : (er == 0) = false := by simpa using he
        have t2 : (er != 0) = true := by simpa using he
        have F := Lib.hid (show RoP w (refsF m) (.returned (.tuple #[.slice none 0 0, .bool false])) wr by
          rw [HF2.out, if_neg (by simp [he])]
          exact ⟨rfl, EX.out⟩)
        clear he
        go_wp2_with fail
        refine (ER.out).mono ?_
        rintro e w2' ⟨rfl, rfl⟩
        clear ER MY LF
        go_wp2
        go_ret2
        exact F.out
end Go.Proofs.YtnhokjnmpdiokaaGreatDoor

namespace Go.Proofs.YtnhokjnmpdiokaaGreatDoor
open Go.RowKit Go.Sha Go.Pth
set_option linter.unusedSimpArgs false
set_option linter.unusedVariables false

def okI (m : List Int) : Bool := (refsF (pgO (decP m)).2).isSome
theorem dec_body {m : List Int} (hb : Byt m) : Byt (pgO (decP m)).2 ∧ (pgO (decP m)).2.length ≤ 60000 := by
  cases e : decP m with
  | none => exact ⟨byt_nil, by simp [pgO]⟩
  | some p =>
    obtain ⟨g, _, _, _, h4, h5, _⟩ := dec_inv hb e
    exact ⟨h5, h4⟩
set_option maxRecDepth 100000 in
set_option maxHeartbeats 16000000 in
theorem ofAn_any (v : Value) (m : List Int) (w : World) (hK : KAt w) (h : Sha.Src w v m w.heap.size) (hb : Byt m) (hl : m.length ≤ 100000) :
    Calls Tryz.prog 63 #[v] w fun e w' => e = .returned (if okI m then v else .slice none 0 0) ∧ Ext w w' := by
  have DC := Lib.hid (decode_any v m w hK h hb (by omega))
  obtain ⟨adv, capv, ev⟩ := h.len
  obtain ⟨NM, hNM⟩ : ∃ n, n = m.length := ⟨_, rfl⟩
  rw [← hNM] at ev
  have DB := dec_body hb
  obtain ⟨O, hO⟩ : ∃ o, o = decP m := ⟨_, rfl⟩
  obtain ⟨ans, hans⟩ : ∃ a : Value, a = (if okI m then v else .slice none 0 0) := ⟨_, rfl⟩
  rw [← hans]
  have HA := Lib.hid (show ans = if (refsF (pgO O).2).isSome then v else .slice none 0 0 by rw [hans, hO]; rfl)
  rw [← hO] at DC DB
  have HDB := Lib.hid DB
  obtain ⟨pg, bd⟩ : ∃ q, q = pgO O := ⟨_, rfl⟩
  obtain ⟨er, her⟩ : ∃ q : Int, q = (if O.isSome then 0 else 10) := ⟨_, rfl⟩
  unfold DcP at DC
  rw [← bd] at HA DC HDB
  rw [← her] at DC
  obtain ⟨G, BB⟩ := pg
  simp only at HA DC HDB
  clear h hb hK hl hNM hO DB hans bd her
  subst ev
  go_enter Tryz.func63, Tryz.ntmps63
  go_wp2_with fail
  refine (DC.out).mono ?_
  rintro e w1 ⟨u, rfl, e1, far⟩
  have s1 := far _ (Or.inr (Nat.le_refl _))
  obtain ⟨adu, capu, eu⟩ := s1.len
  obtain ⟨NB, hNB⟩ : ∃ n, n = BB.length := ⟨_, rfl⟩
  rw [← hNB] at eu
  subst eu
  have E1 := Lib.hid e1
  have S1 := Lib.hid s1
  have one : (#[.int .i64 G, .slice adu NB capu] : Array Value).all (·.oneCell') = true := by simp [Value.oneCell']
  have sz : (Tryz.prog.info? 108).map (·.size) = some (#[.int .i64 G, .slice adu NB capu] : Array Value).size := szPage
  have ea : Ext w1 (w1.alloc (.cells #[.int .i64 0, .slice none 0 0] 108)) := Ext.alloc w1 _
  have aa := At.new w1 #[.int .i64 0, .slice none 0 0] 108
  have E2 := ext_only' ea (Only.setRow w1.heap.size _ #[.int .i64 G, .slice adu NB capu]) (Nat.le_refl _)
  have A2 : At ((w1.alloc (.cells #[.int .i64 0, .slice none 0 0] 108)).setRow w1.heap.size #[.int .i64 G, .slice adu NB capu]) w1.heap.size #[.int .i64 G, .slice adu NB capu] 108 := aa.row _
  clear e1 far s1 DC hNB
  go_upto_region 2 with (refine wpList_store_row rfl 108 _ _ rfl w1.heap.size _ rfl rfl 108 _ aa sz rfl one ?_)
  clear ea aa sz one
  generalize (w1.alloc (.cells #[.int .i64 0, .slice none 0 0] 108)).setRow w1.heap.size #[.int .i64 G, .slice adu NB capu] = w2 at *
  obtain ⟨g2, hg2⟩ : ∃ g, g = w1.heap.size := ⟨_, rfl⟩
  rw [← hg2] at A2 ⊢
  have f1 := A2.cell 1
  have RO := Lib.hid (refsOf_any (.slice adu NB capu) BB w2 (S1.out.now E2) HDB.out.1 (by have := HDB.out.2; omega))
  have EX := Lib.hid (E1.out.trans E2)
  clear E2 A2 hg2
  cases hf : refsF BB with
  | none =>
    rw [hf] at RO
    go_wp2_with fail
    refine (RO.out).mono ?_
    rintro e w3 ⟨rfl, e3⟩
    have F := Lib.hid (EX.out.trans e3)
    clear e3 RO
    go_wp2
    go_ret
    exact ⟨by rw [HA.out, hf]; rfl, F.out⟩
  | some ds =>
    rw [hf] at RO
    go_wp2_with fail
    refine (RO.out).mono ?_
    rintro e w3 ⟨v3, l3, rfl, e3, o3, hd3⟩
    obtain ⟨ad3, cap3, ev3⟩ := o3.len
    obtain ⟨N3, hN3⟩ : ∃ n, n = l3.length := ⟨_, rfl⟩
    rw [← hN3] at ev3
    have F := Lib.hid (EX.out.trans e3)
    clear e3 RO o3 hd3 hN3
    subst ev3
    go_wp2
    go_ret
    exact ⟨by rw [HA.out, hf]; rfl, F.out⟩
end Go.Proofs.YtnhokjnmpdiokaaGreatDoor

namespace Go.Proofs.YtnhokjnmpdiokaaGreatDoor
open Go.RowKit Go.Sha Go.Pth
set_option linter.unusedSimpArgs false
set_option linter.unusedVariables false

def keepI (m : List Int) : List Int := if okI m then m else []
theorem keepI_byt {m : List Int} (h : Byt m) : Byt (keepI m) := by
  unfold keepI; split
  · exact h
  · exact byt_nil
theorem keepI_len (m : List Int) : (keepI m).length ≤ m.length := by unfold keepI; split <;> simp
theorem dec_page (g : Nat) {ds : List RD} (h : imageL ds = true) (hg : 1 ≤ g ∧ g ≤ 2147483647) : decP (pageI g ds) = some ((g : Int), bodyL ds) :=
  dec_enc g (bodyL ds) hg.1 hg.2 (by have := image_body h; omega)
theorem keepI_page (g : Nat) {ds : List RD} (h : imageL ds = true) (ht : TimR ds) (hg : 1 ≤ g ∧ g ≤ 2147483647) : keepI (pageI g ds) = pageI g ds := by
  have e : okI (pageI g ds) = true := by
    unfold okI
    rw [dec_page g h hg]
    show (refsF (bodyL ds)).isSome = true
    rw [refsF_body h ht]; rfl
  unfold keepI
  rw [if_pos e]
theorem mayP_page (g : Nat) {ds : List RD} (h : imageL ds = true) (hg : 1 ≤ g ∧ g ≤ 2147483647) : mayP ((g : Int), bodyL ds) = true := by
  unfold mayP
  have := image_body h
  simp; omega
theorem vote_major (g : Nat) {ds : List RD} (h : imageL ds = true) (hb : BytR ds) (hg : 1 ≤ g ∧ g ≤ 2147483647) (cc : Nat → List Int) (i j : Nat) (hij : i < j) (hj : j < 3) (ei : cc i = pageI g ds) (ej : cc j = pageI g ds) (hc : ∀ k, k < 3 → Byt (cc k)) :
    voteP (cc 0) (cc 1) (cc 2) = ((g : Int), bodyL ds) := by
  have hp := dec_page g h hg
  have hm := mayP_page g h hg
  have hB : Byt (bodyL ds) := bodyL_byt ds hb
  have self : sameP ((g : Int), bodyL ds) ((g : Int), bodyL ds) = true := sameP_self _
  have same : ∀ k, k < 3 → sameP (pgO (decP (cc k))) ((g : Int), bodyL ds) = true → pgO (decP (cc k)) = ((g : Int), bodyL ds) := fun k hk q => (sameP_iff (dec_body (hc k hk)).1 hB).1 q
  unfold voteP pgs
  simp only [List.map_cons, List.map_nil]
  have cases3 : (i = 0 ∧ j = 1) ∨ (i = 0 ∧ j = 2) ∨ (i = 1 ∧ j = 2) := by omega
  rcases cases3 with ⟨rfl, rfl⟩ | ⟨rfl, rfl⟩ | ⟨rfl, rfl⟩
  · rw [ei, ej, hp]; simp only [pgO, Option.getD_some]
    simp [electL, hit, hm, self]
  · rw [ei, ej, hp]; simp only [pgO, Option.getD_some]
    simp [electL, hit, hm, self]
  · rw [ei, ej, hp]; simp only [pgO, Option.getD_some]
    have s0 := same 0 (by omega)
    simp only [pgO] at s0
    generalize (decP (cc 0)).getD (0, []) = p at *
    cases q : mayP p && sameP p ((g : Int), bodyL ds) with
    | true =>
      simp only [Bool.and_eq_true] at q
      rw [s0 q.2]
      simp [electL, hit, hm, self]
    | false => simp [electL, hit, hm, self, q]
theorem src_top {w : World} {v : Value} {m : List Int} {b : Nat} (h : Sha.Src w v m b) : Sha.Src w v m w.heap.size := by
  obtain ⟨ad, cap, sb, so, h1, h2, h3, h4, h5, h6⟩ := h
  rcases Nat.eq_zero_or_pos m.length with k | k
  · exact ⟨ad, cap, w.heap.size + 1, so, h1, h2, fun q => by omega, by omega, fun j hj => by omega, h6⟩
  · have := World.block_lt_of_cell? w _ (h5 0 k)
    exact ⟨ad, cap, sb, so, h1, h2, h3, by simp only at this; omega, h5, h6⟩
theorem src_row {w : World} {v : Value} {m : List Int} {b g : Nat} {c row : Array Value} {t : TypeId} (h : Sha.Src w v m b) (ha : At w g c t) (hc : ∀ (j : Nat) (x : Int), c[j]? ≠ some (Value.int .u8 x)) : Sha.Src (w.setRow g row) v m (w.setRow g row).heap.size := by
  obtain ⟨ad, cap, sb, so, h1, h2, h3, h4, h5, h6⟩ := h
  rcases Nat.eq_zero_or_pos m.length with k | k
  · exact ⟨ad, cap, (w.setRow g row).heap.size + 1, so, h1, h2, fun q => by omega, by omega, fun j hj => by omega, h6⟩
  · have hne : sb ≠ g := fun e => by
      have := h5 0 k
      rw [e, ha.cell] at this
      exact hc _ _ this
    exact src_top (b := g) ⟨ad, cap, sb, so, h1, h2, h3, hne, fun j hj => by
      rw [← h5 j hj]; exact World.cell?_of_block ((Only.setRow g w row).block sb (World.block_lt_of_cell? w _ (h5 j hj)) hne), h6⟩
theorem page_no_u8 (a : Int) (ad : Option Addr) (n cap : Nat) : ∀ (j : Nat) (x : Int), (#[.int .i64 a, .slice ad n cap] : Array Value)[j]? ≠ some (Value.int .u8 x) := fun j x e => by
  rcases j with _ | _ | j
  · simp at e
  · simp at e
  · simp at e
end Go.Proofs.YtnhokjnmpdiokaaGreatDoor
