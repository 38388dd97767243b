/- Roots of changed leaves, some of them: each is another one than the root of the leaves in order. No conditions. -/
import Derived.Test.YtmplnlcmdcogmaaDoorKe
namespace Go.Lane
set_option maxRecDepth 1000000
theorem c16x0 : chk 16 (prs 16 0 16) = true := by decide +kernel
theorem c27x0 : chk 27 (prs 27 0 17) = true := by decide +kernel
theorem c28x16 : chk 28 (prs 28 16 12) = true := by decide +kernel
theorem c29x0 : chk 29 (prs 29 0 15) = true := by decide +kernel
theorem c42x19 : chk 42 (prs 42 19 23) = true := by decide +kernel
theorem c49x7 : chk 49 (prs 49 7 8) = true := by decide +kernel
theorem c49x26 : chk 49 (prs 49 26 23) = true := by decide +kernel
theorem c53x0 : chk 53 (prs 53 0 6) = true := by decide +kernel
theorem c53x22 : chk 53 (prs 53 22 13) = true := by decide +kernel
theorem c57x28 : chk 57 (prs 57 28 15) = true := by decide +kernel
theorem c58x40 : chk 58 (prs 58 40 18) = true := by decide +kernel
theorem c60x0 : chk 60 (prs 60 0 5) = true := by decide +kernel
end Go.Lane
