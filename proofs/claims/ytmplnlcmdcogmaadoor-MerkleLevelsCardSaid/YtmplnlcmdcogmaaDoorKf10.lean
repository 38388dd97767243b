/- Roots of changed leaves, some of them: each is another one than the root of the leaves in order. No conditions. -/
import Derived.Test.YtmplnlcmdcogmaaDoorKe
namespace Go.Lane
set_option maxRecDepth 1000000
theorem c26x20 : chk 26 (prs 26 20 6) = true := by decide +kernel
theorem c30x0 : chk 30 (prs 30 0 14) = true := by decide +kernel
theorem c33x12 : chk 33 (prs 33 12 21) = true := by decide +kernel
theorem c36x30 : chk 36 (prs 36 30 6) = true := by decide +kernel
theorem c37x0 : chk 37 (prs 37 0 10) = true := by decide +kernel
theorem c39x9 : chk 39 (prs 39 9 14) = true := by decide +kernel
theorem c46x7 : chk 46 (prs 46 7 9) = true := by decide +kernel
theorem c50x0 : chk 50 (prs 50 0 7) = true := by decide +kernel
theorem c51x0 : chk 51 (prs 51 0 6) = true := by decide +kernel
theorem c55x13 : chk 55 (prs 55 13 8) = true := by decide +kernel
theorem c57x0 : chk 57 (prs 57 0 6) = true := by decide +kernel
theorem c58x11 : chk 58 (prs 58 11 7) = true := by decide +kernel
end Go.Lane
