/- Roots of changed leaves, some of them: each is another one than the root of the leaves in order. No conditions. -/
import Derived.Test.YtmplnlcmdcogmaaDoorKe
namespace Go.Lane
set_option maxRecDepth 1000000
theorem c7x0 : chk 7 (prs 7 0 7) = true := by decide +kernel
theorem c9x0 : chk 9 (prs 9 0 9) = true := by decide +kernel
theorem c24x0 : chk 24 (prs 24 0 24) = true := by decide +kernel
theorem c30x14 : chk 30 (prs 30 14 16) = true := by decide +kernel
theorem c32x0 : chk 32 (prs 32 0 12) = true := by decide +kernel
theorem c38x0 : chk 38 (prs 38 0 9) = true := by decide +kernel
theorem c43x19 : chk 43 (prs 43 19 24) = true := by decide +kernel
theorem c49x15 : chk 49 (prs 49 15 11) = true := by decide +kernel
theorem c52x6 : chk 52 (prs 52 6 7) = true := by decide +kernel
theorem c54x33 : chk 54 (prs 54 33 21) = true := by decide +kernel
theorem c56x6 : chk 56 (prs 56 6 7) = true := by decide +kernel
theorem c56x21 : chk 56 (prs 56 21 11) = true := by decide +kernel
theorem c57x12 : chk 57 (prs 57 12 7) = true := by decide +kernel
end Go.Lane
