/- Contracts of there, file, Used, Clock, and all of nothing. -/
import Derived.Test.YtbneedmfpldpfaaDoorSb
namespace Go.Proofs.YtbneedmfpldpfaaDoor
open Go.RowKit Go.Pth

set_option maxHeartbeats 4000000 in
theorem there_any (b : Nat) (S : SV) (V : SW) (L : Nat → Option Role) (w : World) (h : Rep w b S V L) : Calls Tryd.prog 26 #[ptr b] w fun e w' => e = .returned V.n ∧ w = w' := by
  have c2 := h.c 2
  simp only [scells] at c2
  unfold ptr
  clear h
  go_enter Tryd.func26, Tryd.ntmps26
  go_wp2
  go_ret
  exact ⟨rfl, rfl⟩
set_option maxHeartbeats 4000000 in
theorem there_nil (w : World) : Calls Tryd.prog 26 #[.pointer none] w fun e w' => e = .returned (.slice none 0 0) ∧ w = w' := by
  go_enter Tryd.func26, Tryd.ntmps26
  go_wp2
  go_ret
  exact ⟨rfl, rfl⟩
def SV.file (S : SV) (p : B) : Option Nat × Int :=
  match look S.names p with
  | none => (none, 5)
  | some a => if (S.nd a).kind = 1 then (some a, 0) else (none, 8)
set_option maxRecDepth 100000 in
set_option maxHeartbeats 4000000 in
theorem file_any (b : Nat) (S : SV) (V : SW) (L : Nat → Option Role) (p : ByteArray) (w : World) (h : Rep w b S V L) (hn : S.names.length ≤ 1000000) :
    Calls Tryd.prog 25 #[ptr b, .string p] w fun e w' => e = .returned (.tuple #[optr (S.file p.toList).1, .int .i64 (S.file p.toList).2]) ∧ Ext w w' := by
  have TH := Lib.hid (there_any b S V L w h)
  have FI := Lib.hid (find_any V.n S.names p w (Tr.of_row h.nm) h.sn hn)
  have fe : S.file p.toList = match look S.names p.toList with
    | none => (none, 5)
    | some a => if (S.nd a).kind = 1 then (some a, 0) else (none, 8) := rfl
  unfold ptr at TH ⊢
  cases h1 : look S.names p.toList with
  | none =>
    rw [h1] at fe FI
    have FE := Lib.hid fe
    clear fe h
    go_enter Tryd.func25, Tryd.ntmps25
    go_wp2_with (first | (go_at_call 26; refine (TH.out).mono ?_; rintro e w' ⟨rfl, rfl⟩) | (go_at_call 27; refine (FI.out).mono ?_; rintro e w' ⟨rfl, hE⟩; simp only [optr]))
    go_ret2
    exact ⟨by rw [FE.out] <;> rfl, hE⟩
  | some a =>
    rw [h1] at fe FI
    have hid := h.rn _ (look_mem _ _ _ h1)
    have c0 := (h.nd a hid).1.c 0
    simp only [ncells] at c0
    have C0 := Lib.hid c0
    have fe : S.file p.toList = if (S.nd a).kind = 1 then (some a, 0) else (none, 8) := fe
    clear c0 h
    generalize (S.nd a).kind = kk at *
    by_cases h2 : kk = 1
    · subst h2
      simp only [if_true] at fe
      have FE := Lib.hid fe
      clear fe
      go_enter Tryd.func25, Tryd.ntmps25
      go_wp2_with (first | (go_at_call 26; refine (TH.out).mono ?_; rintro e w' ⟨rfl, rfl⟩) | (go_at_call 27; refine (FI.out).mono ?_; rintro e w' ⟨rfl, hE⟩; simp only [optr, ptr]; have d0 := hE.cell C0.out))
      go_ret2
      exact ⟨by rw [FE.out] <;> rfl, hE⟩
    · have q : (kk == 1) = false := by simpa using h2
      simp only [if_neg h2] at fe
      have FE := Lib.hid fe
      clear fe h2
      go_enter Tryd.func25, Tryd.ntmps25
      go_wp2_with (first | (go_at_call 26; refine (TH.out).mono ?_; rintro e w' ⟨rfl, rfl⟩) | (go_at_call 27; refine (FI.out).mono ?_; rintro e w' ⟨rfl, hE⟩; simp only [optr, ptr]; have d0 := hE.cell C0.out))
      go_ret2
      exact ⟨by rw [FE.out] <;> rfl, hE⟩
set_option maxRecDepth 100000 in
set_option maxHeartbeats 4000000 in
theorem file_nil (p : ByteArray) (w : World) : Calls Tryd.prog 25 #[.pointer none, .string p] w fun e w' => e = .returned (.tuple #[.pointer none, .int .i64 5]) ∧ Ext w w' := by
  have FI := Lib.hid (find_any (.slice none 0 0) [] p w (Tr.nil w) List.Pairwise.nil (by simp))
  rw [show look [] p.toList = none from rfl] at FI
  have TH := Lib.hid (there_nil w)
  go_enter Tryd.func25, Tryd.ntmps25
  go_wp2_with (first | (go_at_call 26; refine (TH.out).mono ?_; rintro e w' ⟨rfl, rfl⟩) | (go_at_call 27; refine (FI.out).mono ?_; rintro e w' ⟨rfl, hE⟩; simp only [optr]))
  go_ret2
  exact ⟨rfl, hE⟩
def used (nd : Nat → NV) (l : List Nm) : Nat := (l.map fun p => (nd p.2).now.length).sum
def InvU (w : World) (S : SV) (s3 s9 : Value) (wr : World) : Prop := ∃ k : Nat, k ≤ S.names.length ∧ s9 = .int .i64 k ∧ s3 = .int .i64 (used S.nd (S.names.take k)) ∧ Ext w wr
theorem used_step (nd : Nat → NV) (l : List Nm) (k : Nat) (h : k < l.length) : used nd (l.take (k + 1)) = used nd (l.take k) + (nd l[k].2).now.length := by
  unfold used; rw [List.take_succ_eq_append_getElem h, List.map_append, List.sum_append]; rfl
theorem used_le (nd : Nat → NV) (l : List Nm) (h : ∀ p ∈ l, (nd p.2).now.length ≤ 65536) : used nd l ≤ l.length * 65536 := by
  unfold used
  induction l with
  | nil => simp
  | cons a r ih =>
    have := ih fun p hp => h p (List.mem_cons_of_mem _ hp)
    have := h a (List.mem_cons_self)
    simp only [List.map_cons, List.sum_cons, List.length_cons]
    omega
set_option maxRecDepth 100000 in
set_option maxHeartbeats 4000000 in
theorem used_any (b : Nat) (S : SV) (V : SW) (L : Nat → Option Role) (w : World) (h : Rep w b S V L) (hn : S.names.length ≤ 1000000) :
    Calls Tryd.prog 15 #[ptr b] w fun e w' => e = .returned (.int .i64 (used S.nd S.names)) ∧ Ext w w' := by
  have TH := Lib.hid (there_any b S V L w h)
  obtain ⟨ad, cap, tb, o, ht⟩ := Tr.of_row h.nm
  have hvn := ht.val
  have HT := Lib.hid ht
  have ND := Lib.hid (fun a ha => (h.nd a ha))
  have RN := Lib.hid h.rn
  have UB := Lib.hid (used_le S.nd S.names fun p hp => (h.nd _ (h.rn p hp)).2.len)
  rw [hvn] at TH
  unfold ptr at TH ⊢
  obtain ⟨n, hN⟩ : ∃ n, n = S.names.length := ⟨_, rfl⟩
  have HN := Lib.hid hN
  rw [← hN] at hn TH
  have E0 := Lib.hid (Ext.refl w)
  clear h hvn ht hN
  go_enter Tryd.func15, Tryd.ntmps15
  go_wp2_with (go_at_call 26; refine (TH.out).mono ?_; rintro e w' ⟨rfl, rfl⟩)
  go_loopw [3, 9] (fun s3 s9 wr => InvU w S s3 s9 wr) (fun _ s9 _ => n - (intOf s9).toNat)
  case atStart => exact ⟨0, Nat.zero_le _, rfl, rfl, E0.out⟩
  case round =>
    obtain ⟨k, hk, rfl, rfl, he⟩ := hrel
    rw [← HN.out] at hk
    have HE := Lib.hid he
    clear he
    by_cases hlt : k < n
    · have hkl : k < S.names.length := by rw [← HN.out]; exact hlt
      have had := HT.out.adr (by omega)
      have c1 := HE.out.cell (HT.out.nm k hkl)
      have c2 := HE.out.cell (HT.out.nd k hkl)
      have nn := (ND.out _ (RN.out _ (List.getElem_mem hkl)))
      have c3 := HE.out.cell (show w.cell? ⟨S.names[k].2, 3, none⟩ = some (V.nv S.names[k].2).n by rw [nn.1.c 3]; rfl)
      obtain ⟨d3, k3, hv3, -⟩ := nn.1.n.shape
      rw [hv3] at c3
      have us := Lib.hid (used_step S.nd S.names k hkl)
      have l1 := nn.2.len
      have l2 : used S.nd (S.names.take k) ≤ k * 65536 := by
        have := used_le S.nd (S.names.take k) fun p hp => (ND.out _ (RN.out _ (List.mem_of_mem_take hp))).2.len
        rw [List.length_take, Nat.min_eq_left (by omega)] at this
        exact this
      subst had
      clear nn hv3
      generalize S.names[k].1 = pk at *
      generalize S.names[k].2 = ak at *
      generalize (S.nd ak).now.length = ln at *
      generalize used S.nd (S.names.take k) = u0 at *
      unfold ptr at c2
      have i0 : (0 : Int) ≤ (k : Int) := by omega
      have i1 : (k : Int) < (n : Int) := by omega
      clear hkl
      have c4 := (Ext.alloc wr (.cells #[.string (tx pk), .pointer (some ⟨ak, 0, none⟩)] 64)).cell c3
      have E2 := Lib.hid (HE.out.trans (Ext.alloc wr (.cells #[.string (tx pk), .pointer (some ⟨ak, 0, none⟩)] 64)))
      go_wp2
      exact ⟨⟨k + 1, by rw [← HN.out]; omega, rfl, by rw [us.out]; rfl, E2.out⟩, by simp [intOf]; omega⟩
    · obtain rfl : k = n := by omega
      clear hlt
      have ut : used S.nd (S.names.take k) = used S.nd S.names := by rw [HN.out, List.take_length]
      rw [ut]
      go_wp2
      go_ret
      exact ⟨rfl, HE.out⟩
set_option maxHeartbeats 4000000 in
theorem used_nil (w : World) : Calls Tryd.prog 15 #[.pointer none] w fun e w' => e = .returned (.int .i64 0) ∧ w = w' := by
  have TH := Lib.hid (there_nil w)
  go_enter Tryd.func15, Tryd.ntmps15
  go_wp2_with (go_at_call 26; refine (TH.out).mono ?_; rintro e w' ⟨rfl, rfl⟩)
  go_loopw [3, 9] (fun s3 s9 wr => s3 = .int .i64 0 ∧ s9 = .int .i64 0 ∧ w = wr) (fun _ _ _ => 0)
  case atStart => exact ⟨rfl, rfl, rfl⟩
  case round =>
    obtain ⟨rfl, rfl, rfl⟩ := hrel
    go_wp2
    go_ret
    exact ⟨rfl, rfl⟩
set_option maxHeartbeats 4000000 in
theorem list_nil (w : World) : Calls Tryd.prog 14 #[.pointer none] w fun e w' => e = .returned (.slice none 0 0) ∧ w = w' := by
  have TH := Lib.hid (there_nil w)
  go_enter Tryd.func14, Tryd.ntmps14
  go_wp2_with (go_at_call 26; refine (TH.out).mono ?_; rintro e w' ⟨rfl, rfl⟩)
  go_loopw [3, 9] (fun s3 s9 wr => s3 = .slice none 0 0 ∧ s9 = .int .i64 0 ∧ w = wr) (fun _ _ _ => 0)
  case atStart => exact ⟨rfl, rfl, rfl⟩
  case round =>
    obtain ⟨rfl, rfl, rfl⟩ := hrel
    go_wp2
    go_ret
    exact ⟨rfl, rfl⟩
set_option maxHeartbeats 4000000 in
theorem clock_any (b : Nat) (S : SV) (V : SW) (L : Nat → Option Role) (w : World) (h : Rep w b S V L) : Calls Tryd.prog 16 #[ptr b] w fun e w' => e = .returned (.int .u64 S.clock) ∧ w = w' := by
  have c1 := h.c 1
  simp only [scells] at c1
  unfold ptr
  clear h
  go_enter Tryd.func16, Tryd.ntmps16
  go_wp2
  go_ret
  exact ⟨rfl, rfl⟩
set_option maxHeartbeats 4000000 in
theorem clock_nil (w : World) : Calls Tryd.prog 16 #[.pointer none] w fun e w' => e = .returned (.int .u64 0) ∧ w = w' := by
  go_enter Tryd.func16, Tryd.ntmps16
  go_wp2
  go_ret
  exact ⟨rfl, rfl⟩
set_option maxHeartbeats 4000000 in
theorem begin_nil (v : Value) (w : World) : Calls Tryd.prog 30 #[.pointer none, v] w fun e w' => e = .returned (.int .i64 7) ∧ w = w' := by
  go_enter Tryd.func30, Tryd.ntmps30
  go_wp2
  go_ret
  exact ⟨rfl, rfl⟩
set_option maxHeartbeats 4000000 in
theorem create_nil (p : ByteArray) (w : World) : Calls Tryd.prog 10 #[.pointer none, .string p] w fun e w' => e = .returned (.int .i64 7) ∧ Ext w w' := by
  have A : Hid (Calls Tryd.prog 29 #[.pointer none, .string p, .int .i64 1] w fun e w' => e = .returned (.int .i64 7) ∧ Ext w w') := Lib.hid (by
    have BG := Lib.hid begin_nil
    have E := Lib.hid (Ext.alloc w (.cells #[.string p] 9))
    go_enter Tryd.func29, Tryd.ntmps29
    go_wp2_with (go_at_call 30; refine (BG.out _ _).mono ?_; rintro e w' ⟨rfl, rfl⟩)
    go_ret
    exact ⟨rfl, E.out⟩)
  go_enter Tryd.func10, Tryd.ntmps10
  go_wp2_with (go_at_call 29; refine (A.out).mono ?_; rintro e w' ⟨rfl, hE⟩)
  go_ret
  exact ⟨rfl, hE⟩
set_option maxHeartbeats 4000000 in
theorem write_nil (p : ByteArray) (n : Int) (v : Value) (w : World) : Calls Tryd.prog 11 #[.pointer none, .string p, .int .i64 n, v] w fun e w' => e = .returned (.int .i64 7) ∧ Ext w w' := by
  have BG := Lib.hid begin_nil
  have E := Lib.hid (Ext.alloc w (.cells #[.string p] 9))
  go_enter Tryd.func11, Tryd.ntmps11
  go_wp2_with (go_at_call 30; refine (BG.out _ _).mono ?_; rintro e w' ⟨rfl, rfl⟩)
  go_ret
  exact ⟨rfl, E.out⟩
set_option maxHeartbeats 4000000 in
theorem syncDir_nil (w : World) : Calls Tryd.prog 12 #[.pointer none] w fun e w' => e = .returned (.int .i64 7) ∧ w = w' := by
  have BG := Lib.hid begin_nil
  go_enter Tryd.func12, Tryd.ntmps12
  go_wp2_with (go_at_call 30; refine (BG.out _ _).mono ?_; rintro e w' ⟨rfl, rfl⟩)
  go_ret
  exact ⟨rfl, rfl⟩
set_option maxHeartbeats 4000000 in
theorem rot_nil (p : ByteArray) (n x : Int) (w : World) : Calls Tryd.prog 13 #[.pointer none, .string p, .int .i64 n, .int .u8 x] w fun e w' => e = .returned (.int .i64 5) ∧ Ext w w' := by
  have FI := Lib.hid (file_nil p w)
  go_enter Tryd.func13, Tryd.ntmps13
  go_wp2_with (go_at_call 25; refine (FI.out).mono ?_; rintro e w' ⟨rfl, hE⟩)
  go_ret
  exact ⟨rfl, hE⟩
set_option maxHeartbeats 4000000 in
theorem read_nil (p : ByteArray) (w : World) : Calls Tryd.prog 7 #[.pointer none, .string p] w fun e w' => e = .returned (.tuple #[.slice none 0 0, .int .i64 5]) ∧ Ext w w' := by
  have FI := Lib.hid (file_nil p w)
  go_enter Tryd.func7, Tryd.ntmps7
  go_wp2_with (go_at_call 25; refine (FI.out).mono ?_; rintro e w' ⟨rfl, hE⟩)
  go_ret2
  exact ⟨rfl, hE⟩
set_option maxHeartbeats 4000000 in
theorem crash_nil (v : Value) (w : World) : Calls Tryd.prog 17 #[.pointer none, v] w fun e w' => e = .returned (.pointer none) ∧ w = w' := by
  go_enter Tryd.func17, Tryd.ntmps17
  go_wp2
  go_ret
  exact ⟨rfl, rfl⟩
end Go.Proofs.YtbneedmfpldpfaaDoor
