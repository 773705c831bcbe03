import Derived.Test.YtbcjllanigmioaaGreatK39
import Derived.Test.YtbcjllanigmioaaGreatK40
import Derived.Test.YtbcjllanigmioaaGreatK22
namespace Go.Proofs.YtbcjllanigmioaaGreat
open Go.RowKit Go.Maps
theorem insM_120 {ars : List Arr} {ps : List Pt} (h : progB ars ps = true) : (insM ps).length ≤ 120 := by rw [insM_len]; exact (progB_inv h).2.2.2
end Go.Proofs.YtbcjllanigmioaaGreat
