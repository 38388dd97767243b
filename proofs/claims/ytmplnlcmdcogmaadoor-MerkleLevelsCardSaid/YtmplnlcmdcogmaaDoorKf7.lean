/- Roots of changed leaves, some of them: each is another one than the root of the leaves in order. No conditions. -/
import Derived.Test.YtmplnlcmdcogmaaDoorKe
namespace Go.Lane
set_option maxRecDepth 1000000
theorem c5x0 : chk 5 (prs 5 0 5) = true := by decide +kernel
theorem c10x0 : chk 10 (prs 10 0 10) = true := by decide +kernel
theorem c25x0 : chk 25 (prs 25 0 25) = true := by decide +kernel
theorem c31x0 : chk 31 (prs 31 0 13) = true := by decide +kernel
theorem c36x10 : chk 36 (prs 36 10 20) = true := by decide +kernel
theorem c37x27 : chk 37 (prs 37 27 10) = true := by decide +kernel
theorem c40x0 : chk 40 (prs 40 0 9) = true := by decide +kernel
theorem c45x16 : chk 45 (prs 45 16 15) = true := by decide +kernel
theorem c51x6 : chk 51 (prs 51 6 7) = true := by decide +kernel
theorem c55x32 : chk 55 (prs 55 32 23) = true := by decide +kernel
theorem c57x6 : chk 57 (prs 57 6 6) = true := by decide +kernel
theorem c58x5 : chk 58 (prs 58 5 6) = true := by decide +kernel
theorem c58x18 : chk 58 (prs 58 18 9) = true := by decide +kernel
end Go.Lane
