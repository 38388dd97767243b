/- The contracts of path's Under, Less. -/
import Derived.Test.YtoompkmncglmoaaDoorWd
namespace Go.Proofs.YtoompkmncglmoaaDoor
open Go.RowKit Go.Pth

theorem parts_len (l : B) : (parts l).length ≤ 61 := by
  unfold parts
  split
  · rename_i h
    have h1 := valid_len h
    have h2 := cut_len l
    omega
  · simp
end Go.Proofs.YtoompkmncglmoaaDoor
