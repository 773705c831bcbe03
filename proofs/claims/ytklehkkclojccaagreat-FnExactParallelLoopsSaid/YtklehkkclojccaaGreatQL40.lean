/- The texts G29 E2c, joined. No statement is proved here. -/
import Derived.Test.YtklehkkclojccaaGreatQL49
import Derived.Test.YtklehkkclojccaaGreatQL42
import Derived.Test.YtklehkkclojccaaGreatQL30
set_option maxRecDepth 100000
set_option maxHeartbeats 8000000
set_option linter.unusedVariables false
set_option linter.unusedSimpArgs false
namespace Go.Proofs.YtklehkkclojccaaGreat
section
open Go.RowKit Go.Maps
end
section
open Go.RowKit Go.Maps
def LB (c : Nat) (b1 b2 b3 : Bool) : Array Bool := #[true, true, true, decide (1 <= c), true, true, true, decide (2 <= c), true, true, decide (3 <= c), b1, b2, b3, decide (4 <= c), decide (5 <= c), decide (6 <= c)]
structure CI (W2 : World) (B : Nat) (w1 : World) (mo : Option Nat) (T : Int) (ex ey : Ex) (kind : Int) (c : Nat) (b1 b2 b3 : Bool) (v31 v35 v38 v9 v10 v11 : Value) (g9 g10 g11 s1 e1 s2 e2 : Nat) (X : World) : Prop where
 ext : Ext W2 X
 x1 : 1 <= c -> FnR (fun g => s1 <= g /\ g < e1) B w1 mo T X v31 ex /\ W2.heap.size <= s1 /\ e1 <= X.heap.size
 x2 : 2 <= c -> FnR (fun g => s2 <= g /\ g < e2) B w1 mo T X v35 ey /\ W2.heap.size <= s2 /\ e2 <= X.heap.size
 x3 : 3 <= c -> v38 = .func (.func (opF kind)) #[] #[]
 a1 : b1 = true -> v9 = .pointer (some ⟨g9, 0, none⟩) /\ W2.heap.size <= g9 /\ X.heap[g9]? = some (.cells #[if 4 <= c then v31 else .nilFunc] 264 (0, 0)) /\ (1 <= c -> g9 < s1 \/ e1 <= g9) /\ (2 <= c -> g9 < s2 \/ e2 <= g9)
 a2 : b2 = true -> v10 = .pointer (some ⟨g10, 0, none⟩) /\ W2.heap.size <= g10 /\ X.heap[g10]? = some (.cells #[if 5 <= c then v35 else .nilFunc] 264 (0, 0)) /\ (1 <= c -> g10 < s1 \/ e1 <= g10) /\ (2 <= c -> g10 < s2 \/ e2 <= g10)
 a3 : b3 = true -> v11 = .pointer (some ⟨g11, 0, none⟩) /\ W2.heap.size <= g11 /\ X.heap[g11]? = some (.cells #[if 6 <= c then v38 else .nilFunc] 275 (0, 0)) /\ (1 <= c -> g11 < s1 \/ e1 <= g11) /\ (2 <= c -> g11 < s2 \/ e2 <= g11)
 ne : b1 = true -> b2 = true -> g9 ≠ g10
 all : 4 <= c -> b1 = true /\ b2 = true /\ b3 = true
theorem CI.ext' {W2 : World} {B : Nat} {w1 : World} {mo : Option Nat} {T : Int} {ex ey : Ex} {kind : Int} {c : Nat} {b1 b2 b3 : Bool} {v31 v35 v38 v9 v10 v11 : Value} {g9 g10 g11 s1 e1 s2 e2 : Nat} {X X' : World} (h : CI W2 B w1 mo T ex ey kind c b1 b2 b3 v31 v35 v38 v9 v10 v11 g9 g10 g11 s1 e1 s2 e2 X) (hE : Ext X X') : CI W2 B w1 mo T ex ey kind c b1 b2 b3 v31 v35 v38 v9 v10 v11 g9 g10 g11 s1 e1 s2 e2 X' := by
 have hz := hE.size_le
 refine ⟨h.ext.trans hE, fun hc => ?_, fun hc => ?_, h.x3, fun hb => ?_, fun hb => ?_, fun hb => ?_, h.ne, h.all⟩
 ·obtain ⟨a, b, d⟩ := h.x1 hc; exact ⟨a.ext hE, b, by omega⟩
 ·obtain ⟨a, b, d⟩ := h.x2 hc; exact ⟨a.ext hE, b, by omega⟩
 ·obtain ⟨a, b, d, e, f⟩ := h.a1 hb; exact ⟨a, b, hE.blk d, e, f⟩
 ·obtain ⟨a, b, d, e, f⟩ := h.a2 hb; exact ⟨a, b, hE.blk d, e, f⟩
 ·obtain ⟨a, b, d, e, f⟩ := h.a3 hb; exact ⟨a, b, hE.blk d, e, f⟩
end
end Go.Proofs.YtklehkkclojccaaGreat
