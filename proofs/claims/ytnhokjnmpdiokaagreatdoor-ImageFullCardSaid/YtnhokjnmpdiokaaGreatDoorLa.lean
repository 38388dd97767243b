/- What the rows of this seat share: a world in which the listed tables are laid, and the table that the walks read. No conditions: lemmas. -/
import Derived.Test.YtnhokjnmpdiokaaGreatDoorRows
import Derived.Test.YtnhokjnmpdiokaaGreatDoorRw
import Derived.ProofKit
import Derived.OpenShut
import Derived.ShutString
import Derived.LaidMore
import Derived.Lay
import Derived.SevenTiedAt
import Derived.Stop.Joined
namespace Go.Proofs.YtnhokjnmpdiokaaGreatDoor
open Go.ChangeShapes Go.WideShapes Go.ChangeAt Go.RowKit Go.Sha

def laid3 : List (String × DataW Unit) := [("unicode/utf8.acceptRanges", Rows.laid_unicode_utf8_acceptRanges), ("linnet/digest.roundWords", Rows.laid_linnet_digest_roundWords), ("unicode/utf8.first", Rows.laid_unicode_utf8_first)]
set_option maxRecDepth 100000 in
theorem laid_met (os : Os) (args : Array Value) : laidMetH Tryz.prog laid3 ((World.laidAll Tryz.prog os laid3).forCall (fun _ _ => 0) ⟨#[], args, []⟩).memory := by
  rw [MakeChecks.laidMetH_plain _ _ _ (by kernel_rfl)]; exact laidMet_laidAll _ (by kernel_rfl) (by kernel_rfl)
theorem gK3 : Tryz.prog.globalNamed "linnet/digest.roundWords" = some 3 := by kernel_rfl
theorem tK3 : (Tryz.prog.globals[3]?).map (·.type) = some 121 := by kernel_rfl
theorem laid_tail {P : Program} {n : String} {d : DataW Unit} {r : List (String × DataW Unit)} {w : World} (h : laidMet P ((n, d) :: r) w) : laidMet P r w := by
  obtain ⟨ps, ⟨g, t, cs, fuel, p, q, _, _, _, _, hr, rfl⟩, hn, hc⟩ := h
  exact ⟨q, hr, (List.nodup_append.1 hn).2.1, fun b off hb => hc b off (List.mem_append_right _ hb)⟩
theorem k_of_laid3 {W : World} (h : laidMetH Tryz.prog laid3 W) : KAt W := by
  rw [MakeChecks.laidMetH_plain _ _ _ (by kernel_rfl)] at h
  have h' : laidMet Tryz.prog (("linnet/digest.roundWords", Lib.tabData .u32 K) :: [("unicode/utf8.first", Rows.laid_unicode_utf8_first)]) W := laid_tail h
  have ht := Lib.tabIs_of_head gK3 tK3 Tryz.underlying121 Tryz.underlying120 (by kernel_rfl) (by kernel_rfl) h'
  intro j hj
  rw [ht.cell gK3 j (by rw [K_length]; exact hj)]; rfl
end Go.Proofs.YtnhokjnmpdiokaaGreatDoor
