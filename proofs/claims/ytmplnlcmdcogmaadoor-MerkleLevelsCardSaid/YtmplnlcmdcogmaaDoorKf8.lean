/- Roots of changed leaves, some of them: each is another one than the root of the leaves in order. No conditions. -/
import Derived.Test.YtmplnlcmdcogmaaDoorKe
namespace Go.Lane
set_option maxRecDepth 1000000
theorem c14x0 : chk 14 (prs 14 0 14) = true := by decide +kernel
theorem c29x15 : chk 29 (prs 29 15 14) = true := by decide +kernel
theorem c33x0 : chk 33 (prs 33 0 12) = true := by decide +kernel
theorem c41x20 : chk 41 (prs 41 20 21) = true := by decide +kernel
theorem c45x0 : chk 45 (prs 45 0 7) = true := by decide +kernel
theorem c45x7 : chk 45 (prs 45 7 9) = true := by decide +kernel
theorem c45x31 : chk 45 (prs 45 31 14) = true := by decide +kernel
theorem c47x7 : chk 47 (prs 47 7 9) = true := by decide +kernel
theorem c54x6 : chk 54 (prs 54 6 7) = true := by decide +kernel
theorem c54x13 : chk 54 (prs 54 13 8) = true := by decide +kernel
theorem c56x0 : chk 56 (prs 56 0 6) = true := by decide +kernel
theorem c59x11 : chk 59 (prs 59 11 7) = true := by decide +kernel
end Go.Lane
