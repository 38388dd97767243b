/- Roots of changed leaves, some of them: each is another one than the root of the leaves in order. No conditions. -/
import Derived.Test.YtmplnlcmdcogmaaDoorKe
namespace Go.Lane
set_option maxRecDepth 1000000
theorem c17x0 : chk 17 (prs 17 0 17) = true := by decide +kernel
theorem c19x0 : chk 19 (prs 19 0 19) = true := by decide +kernel
theorem c38x9 : chk 38 (prs 38 9 15) = true := by decide +kernel
theorem c40x22 : chk 40 (prs 40 22 18) = true := by decide +kernel
theorem c41x0 : chk 41 (prs 41 0 8) = true := by decide +kernel
theorem c48x7 : chk 48 (prs 48 7 8) = true := by decide +kernel
theorem c51x13 : chk 51 (prs 51 13 9) = true := by decide +kernel
theorem c51x37 : chk 51 (prs 51 37 14) = true := by decide +kernel
theorem c57x19 : chk 57 (prs 57 19 9) = true := by decide +kernel
theorem c58x27 : chk 58 (prs 58 27 13) = true := by decide +kernel
theorem c59x38 : chk 59 (prs 59 38 21) = true := by decide +kernel
theorem c60x37 : chk 60 (prs 60 37 23) = true := by decide +kernel
end Go.Lane
