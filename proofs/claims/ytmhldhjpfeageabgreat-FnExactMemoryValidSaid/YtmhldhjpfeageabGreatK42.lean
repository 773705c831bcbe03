/- The texts G24, joined. No statement is proved here. -/
import Derived.Test.YtmhldhjpfeageabGreatK38
import Derived.Test.YtmhldhjpfeageabGreatK39
import Derived.Test.YtmhldhjpfeageabGreatK21
/- Orders of programs: OrderValid of the model and of the program. No statement is proved here. -/
namespace Go.Proofs.YtmhldhjpfeageabGreat
open Go.RowKit Go.Maps
theorem insM_120 {ars : List Arr} {ps : List Pt} (h : progB ars ps = true) : (insM ps).length ≤ 120 := by rw [insM_len]; exact (progB_inv h).2.2.2
end Go.Proofs.YtmhldhjpfeageabGreat
