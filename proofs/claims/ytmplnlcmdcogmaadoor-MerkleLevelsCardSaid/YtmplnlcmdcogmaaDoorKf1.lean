/- Roots of changed leaves, some of them: each is another one than the root of the leaves in order. No conditions. -/
import Derived.Test.YtmplnlcmdcogmaaDoorKe
namespace Go.Lane
set_option maxRecDepth 1000000
theorem c3x0 : chk 3 (prs 3 0 3) = true := by decide +kernel
theorem c12x0 : chk 12 (prs 12 0 12) = true := by decide +kernel
theorem c21x0 : chk 21 (prs 21 0 21) = true := by decide +kernel
theorem c32x12 : chk 32 (prs 32 12 20) = true := by decide +kernel
theorem c34x0 : chk 34 (prs 34 0 11) = true := by decide +kernel
theorem c35x11 : chk 35 (prs 35 11 24) = true := by decide +kernel
theorem c43x0 : chk 43 (prs 43 0 8) = true := by decide +kernel
theorem c44x8 : chk 44 (prs 44 8 10) = true := by decide +kernel
theorem c47x16 : chk 47 (prs 47 16 13) = true := by decide +kernel
theorem c52x22 : chk 52 (prs 52 22 14) = true := by decide +kernel
theorem c53x6 : chk 53 (prs 53 6 7) = true := by decide +kernel
theorem c59x0 : chk 59 (prs 59 0 5) = true := by decide +kernel
theorem c60x11 : chk 60 (prs 60 11 7) = true := by decide +kernel
end Go.Lane
