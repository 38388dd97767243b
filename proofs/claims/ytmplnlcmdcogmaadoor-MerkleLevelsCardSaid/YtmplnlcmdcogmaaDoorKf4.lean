/- Roots of changed leaves, some of them: each is another one than the root of the leaves in order. No conditions. -/
import Derived.Test.YtmplnlcmdcogmaaDoorKe
namespace Go.Lane
set_option maxRecDepth 1000000
theorem c1x0 : chk 1 (prs 1 0 1) = true := by decide +kernel
theorem c6x0 : chk 6 (prs 6 0 6) = true := by decide +kernel
theorem c8x0 : chk 8 (prs 8 0 8) = true := by decide +kernel
theorem c23x0 : chk 23 (prs 23 0 23) = true := by decide +kernel
theorem c38x24 : chk 38 (prs 38 24 14) = true := by decide +kernel
theorem c42x0 : chk 42 (prs 42 0 8) = true := by decide +kernel
theorem c44x0 : chk 44 (prs 44 0 8) = true := by decide +kernel
theorem c50x15 : chk 50 (prs 50 15 11) = true := by decide +kernel
theorem c50x26 : chk 50 (prs 50 26 24) = true := by decide +kernel
theorem c53x13 : chk 53 (prs 53 13 9) = true := by decide +kernel
theorem c53x35 : chk 53 (prs 53 35 18) = true := by decide +kernel
theorem c55x6 : chk 55 (prs 55 6 7) = true := by decide +kernel
theorem c57x43 : chk 57 (prs 57 43 14) = true := by decide +kernel
theorem c60x5 : chk 60 (prs 60 5 6) = true := by decide +kernel
end Go.Lane
