/- Roots of changed leaves, some of them: each is another one than the root of the leaves in order. No conditions. -/
import Derived.Test.YtmplnlcmdcogmaaDoorKe
namespace Go.Lane
set_option maxRecDepth 1000000
theorem c15x0 : chk 15 (prs 15 0 15) = true := by decide +kernel
theorem c22x0 : chk 22 (prs 22 0 22) = true := by decide +kernel
theorem c31x13 : chk 31 (prs 31 13 18) = true := by decide +kernel
theorem c35x0 : chk 35 (prs 35 0 11) = true := by decide +kernel
theorem c42x8 : chk 42 (prs 42 8 11) = true := by decide +kernel
theorem c43x8 : chk 43 (prs 43 8 11) = true := by decide +kernel
theorem c47x29 : chk 47 (prs 47 29 18) = true := by decide +kernel
theorem c48x15 : chk 48 (prs 48 15 12) = true := by decide +kernel
theorem c52x0 : chk 52 (prs 52 0 6) = true := by decide +kernel
theorem c55x0 : chk 55 (prs 55 0 6) = true := by decide +kernel
theorem c56x13 : chk 56 (prs 56 13 8) = true := by decide +kernel
theorem c60x18 : chk 60 (prs 60 18 8) = true := by decide +kernel
end Go.Lane
