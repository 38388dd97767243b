/- Roots of changed leaves, some of them: each is another one than the root of the leaves in order. No conditions. -/
import Derived.Test.YtmplnlcmdcogmaaDoorKe
namespace Go.Lane
set_option maxRecDepth 1000000
theorem c18x0 : chk 18 (prs 18 0 18) = true := by decide +kernel
theorem c27x17 : chk 27 (prs 27 17 10) = true := by decide +kernel
theorem c28x0 : chk 28 (prs 28 0 16) = true := by decide +kernel
theorem c39x0 : chk 39 (prs 39 0 9) = true := by decide +kernel
theorem c46x16 : chk 46 (prs 46 16 14) = true := by decide +kernel
theorem c46x30 : chk 46 (prs 46 30 16) = true := by decide +kernel
theorem c47x0 : chk 47 (prs 47 0 7) = true := by decide +kernel
theorem c48x27 : chk 48 (prs 48 27 21) = true := by decide +kernel
theorem c51x22 : chk 51 (prs 51 22 15) = true := by decide +kernel
theorem c54x0 : chk 54 (prs 54 0 6) = true := by decide +kernel
theorem c55x21 : chk 55 (prs 55 21 11) = true := by decide +kernel
theorem c59x26 : chk 59 (prs 59 26 12) = true := by decide +kernel
end Go.Lane
