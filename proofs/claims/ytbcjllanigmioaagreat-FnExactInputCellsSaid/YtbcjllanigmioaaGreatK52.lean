/- The texts G36, joined. No statement is proved here. -/
import Derived.Test.YtbcjllanigmioaaGreatK51
/- The program's WrittenCells. No statement is proved here. -/
namespace Go.Proofs.YtbcjllanigmioaaGreat
open Go.RowKit Go.Maps

theorem Ext.lvOld {B : Nat} {W a b : World} (h : Lv (fun k => B ≤ k) a b) (hE : Ext W a) (hB : W.heap.size ≤ B) : Ext W b :=
  ⟨h.os.trans hE.os, h.tape.trans hE.tape, h.output.trans hE.output, Nat.le_trans hE.size h.size, fun i hi => (h.block i (Nat.lt_of_lt_of_le hi hE.size) (fun hd => by omega)).trans (hE.block i hi)⟩
end Go.Proofs.YtbcjllanigmioaaGreat
