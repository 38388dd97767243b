/- Roots of changed leaves, some of them: each is another one than the root of the leaves in order. No conditions. -/
import Derived.Test.YtmplnlcmdcogmaaDoorKe
namespace Go.Lane
set_option maxRecDepth 1000000
theorem c4x0 : chk 4 (prs 4 0 4) = true := by decide +kernel
theorem c11x0 : chk 11 (prs 11 0 11) = true := by decide +kernel
theorem c36x0 : chk 36 (prs 36 0 10) = true := by decide +kernel
theorem c39x23 : chk 39 (prs 39 23 16) = true := by decide +kernel
theorem c41x8 : chk 41 (prs 41 8 12) = true := by decide +kernel
theorem c44x38 : chk 44 (prs 44 38 6) = true := by decide +kernel
theorem c46x0 : chk 46 (prs 46 0 7) = true := by decide +kernel
theorem c49x0 : chk 49 (prs 49 0 7) = true := by decide +kernel
theorem c50x7 : chk 50 (prs 50 7 8) = true := by decide +kernel
theorem c52x36 : chk 52 (prs 52 36 16) = true := by decide +kernel
theorem c54x21 : chk 54 (prs 54 21 12) = true := by decide +kernel
theorem c58x0 : chk 58 (prs 58 0 5) = true := by decide +kernel
theorem c60x26 : chk 60 (prs 60 26 11) = true := by decide +kernel
end Go.Lane
