/- Roots of changed leaves, some of them: each is another one than the root of the leaves in order. No conditions. -/
import Derived.Test.YtmplnlcmdcogmaaDoorKe
namespace Go.Lane
set_option maxRecDepth 1000000
theorem c2x0 : chk 2 (prs 2 0 2) = true := by decide +kernel
theorem c13x0 : chk 13 (prs 13 0 13) = true := by decide +kernel
theorem c20x0 : chk 20 (prs 20 0 20) = true := by decide +kernel
theorem c26x0 : chk 26 (prs 26 0 20) = true := by decide +kernel
theorem c34x11 : chk 34 (prs 34 11 23) = true := by decide +kernel
theorem c37x10 : chk 37 (prs 37 10 17) = true := by decide +kernel
theorem c40x9 : chk 40 (prs 40 9 13) = true := by decide +kernel
theorem c44x18 : chk 44 (prs 44 18 20) = true := by decide +kernel
theorem c48x0 : chk 48 (prs 48 0 7) = true := by decide +kernel
theorem c52x13 : chk 52 (prs 52 13 9) = true := by decide +kernel
theorem c56x32 : chk 56 (prs 56 32 24) = true := by decide +kernel
theorem c59x5 : chk 59 (prs 59 5 6) = true := by decide +kernel
theorem c59x18 : chk 59 (prs 59 18 8) = true := by decide +kernel
end Go.Lane
