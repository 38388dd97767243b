/- The contracts of fits, Update (the code's) and Lists. -/
import Derived.Test.YtfhgoedonjcekaaDoorPb
namespace Go.Proofs.YtfhgoedonjcekaaDoor
open Go.RowKit Go.Sha
set_option linter.unusedSimpArgs false

theorem lr_at {w : World} {v : Value} {ls : List (List Int)} {bh : Nat} (h : LR w v ls bh) (h0 : 0 < ls.length) : ∃ cap pb po, v = .slice (some ⟨pb, po, none⟩) ls.length cap ∧ pb ≠ bh ∧ ∀ j m, ls[j]? = some m → ∃ x, w.cell? ⟨pb, po + j, none⟩ = some x ∧ Src w x m bh := by
  obtain ⟨ad, cap, pb, po, rfl, h1, h2, h3⟩ := h
  obtain rfl := h1 h0
  exact ⟨cap, pb, po, rfl, h2, h3⟩

/-- Has it the form of what Build makes? -/
def fitsL (par : List (List Int)) (size B K : Int) : Bool := !(grpsN 1 B K == 0) && ((par.length : Int) == grpsN size B K) && par.all fun x => (x.length : Int) == B
def InvF (w : World) (par : List (List Int)) (B : Int) (i : Value) (wr : World) : Prop := ∃ k : Nat, k ≤ par.length ∧ i = .int .i64 k ∧ w = wr ∧ (par.take k).all (fun x => (x.length : Int) == B) = true

/-- A list in new memory, and an error's number. -/
def UPost (w : World) (ls : List (List Int)) (err : Int) (e : Ending) (w' : World) : Prop := ∃ v, e = .returned (.tuple #[v, .int .i64 err]) ∧ Ext w w' ∧ ∀ bh, (bh < w.heap.size ∨ w'.heap.size ≤ bh) → LR w' v ls bh
theorem sz5b : (Tryd.prog.info? 5).map (·.size) = some 1 := by kernel_rfl
/-- A new block filled with bytes that lie elsewhere. -/
theorem copy_zeros (w : World) (g b : Nat) (m : List Int) (h : At w g (bs (List.replicate b 0)) 5) (hm : m.length = b) : Buf (w.setCells g 0 (m.map (Value.int .u8))) g m ∧ Only g w (w.setCells g 0 (m.map (Value.int .u8))) := by
  refine ⟨?_, Only.cells g _ 0 w⟩
  have := At.cells (t := 5) (m.map (Value.int .u8)) ((List.replicate b (0 : Int)).map (Value.int .u8)) 0 w h (by simp [hm])
  have e : splice ((List.replicate b (0 : Int)).map (Value.int .u8)) 0 (m.map (Value.int .u8)) = m.map (Value.int .u8) := by
    unfold splice
    simp [hm]
  rw [e] at this
  exact ⟨bs m, this, by rw [bs_size]; omega, fun j hj => by rw [bs_get m j hj]; rfl⟩

end Go.Proofs.YtfhgoedonjcekaaDoor
