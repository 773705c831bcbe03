/- The program's text of a linear expression. No statement is proved here. -/
import Derived.Test.YtclgbnilfipobabT2
import Derived.Test.YtclgbnilfipobabA5
import Derived.Test.YtclgbnilfipobabShelf
import Derived.Lib.AppendIntMem
import Derived.Sort.Grow
namespace Go.Proofs.Ytclgbnilfipobab
open Go.RowKit

/-- The table that strconv reads. -/
def Tab (w : World) : Prop := Lib.TabIs Try.prog w "internal/strconv.uint64pow10" .u64 Lib.pow10Tab
theorem Tab.ext {w w' : World} (h : Tab w) (hE : Ext w w') : Tab w' := Lib.tabBelow_of_tabIs h w' hE
theorem ext_grow (w : World) (k : Nat) (os : Array Obj) : Ext w (Sort.grow (w.drewN k) os) := by
  have h1 : Ext w (w.drewN k) := (Ext.refl w).drewN k
  refine h1.trans ?_
  exact ⟨rfl, rfl, rfl, by simp, fun b hb => Sort.heap_grow_old _ _ hb⟩

/-- The builder of the call's own at block b holds the bytes l. -/
def Bd (B b : Nat) (l : List UInt8) (w : World) : Prop := Lib.IsBuilder 35 5 B b (Lib.byteCells l) w
theorem Bd.ext {B b : Nat} {l : List UInt8} {w w' : World} (h : Bd B b l w) (hE : Ext w w') : Bd B b l w' := by
  rcases h with ⟨hB, v, hb, ho, hn⟩ | ⟨hB, v, hb, ho, hn⟩
  · exact .inl ⟨hB, v, hE.blk hb, ownsRow_ext ho hE, hn⟩
  · exact .inr ⟨hB, v, hE.blk hb, ownsRow_ext ho hE, hn⟩
theorem Bd.lt {B b : Nat} {l : List UInt8} {w : World} (h : Bd B b l w) : B ≤ b ∧ b < w.heap.size := by
  rcases h with h | h
  · exact ⟨h.1, h.lt⟩
  · exact ⟨h.1, h.lt⟩

set_option maxHeartbeats 400000 in
theorem wByte (B b : Nat) (l : List UInt8) (c : UInt8) (ci : Int) (w : World) (hc : ci = c.toNat) (h : Bd B b l w) (hl : l.length ≤ 1000000) :
    Calls Try.prog 15 #[.pointer (some ⟨b, 0, none⟩), .int .u8 ci] w fun e w' => e = .returned .nilIface ∧ Bd B b (l ++ [c]) w' ∧ Below B w w' := by
  have hlt := h.lt
  refine (WriteByte_any B b _ ci w h (by rw [Lib.byteCells_length]; omega) (by omega)).mono ?_
  rintro e w' ⟨rfl, h1, h2⟩
  refine ⟨rfl, .inr ?_, h2⟩
  rw [Lib.byteCells_append]
  subst hc
  exact h1
theorem idxName0 (w : World) : (Instr.index 9 (.string ⟨#[105, 106, 107, 108]⟩) (.int .i64 0)).run Try.prog w = .ok (.int .u8 105) w := by kernel_rfl
theorem idxName1 (w : World) : (Instr.index 9 (.string ⟨#[105, 106, 107, 108]⟩) (.int .i64 1)).run Try.prog w = .ok (.int .u8 106) w := by kernel_rfl
theorem idxName2 (w : World) : (Instr.index 9 (.string ⟨#[105, 106, 107, 108]⟩) (.int .i64 2)).run Try.prog w = .ok (.int .u8 107) w := by kernel_rfl
theorem idxName3 (w : World) : (Instr.index 9 (.string ⟨#[105, 106, 107, 108]⟩) (.int .i64 3)).run Try.prog w = .ok (.int .u8 108) w := by kernel_rfl
theorem idxName (k : Nat) (h : k < 4) (w : World) : (Instr.index 9 (.string ⟨#[105, 106, 107, 108]⟩) (.int .i64 (k : Int))).run Try.prog w = .ok (.int .u8 (105 + k)) w := by
  match k, h with
  | 0, _ => exact idxName0 w
  | 1, _ => exact idxName1 w
  | 2, _ => exact idxName2 w
  | 3, _ => exact idxName3 w
theorem name_byte (k : Nat) (h : k < 4) : (105 + k : Int) = ((UInt8.ofNat (105 + k)).toNat : Int) := by
  match k, h with
  | 0, _ => rfl
  | 1, _ => rfl
  | 2, _ => rfl
  | 3, _ => rfl

end Go.Proofs.Ytclgbnilfipobab
