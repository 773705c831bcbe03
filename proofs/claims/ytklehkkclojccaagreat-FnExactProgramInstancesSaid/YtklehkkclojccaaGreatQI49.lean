/- The texts I1, joined. No statement is proved here. -/
import Derived.Test.YtklehkkclojccaaGreatQI46
import Derived.Test.YtklehkkclojccaaGreatQI32
namespace Go.Proofs.YtklehkkclojccaaGreat
open Go.RowKit Go.ChangeShapes Go.WideShapes Go.ChangeAt Go.Joins
theorem eqInstance_same (i j : Int) (s t : Value) (xs : List Int) (w : World) (hs : IntsAt w s xs) (ht : IntsAt w t xs) :
  Calls Tryz.prog 52 #[.agg #[.int .i64 i, .int .i64 j, s], .agg #[.int .i64 i, .int .i64 j, t]] w fun e w' => e = .returned (.bool true) ∧ Ext w w' := by
 obtain ⟨p, c, rfl, -, -⟩ := id hs
 obtain ⟨q, d, rfl, -, -⟩ := id ht
 have HS := Lib.hid hs; have HT := Lib.hid ht; clear hs ht
 go_enter Tryz.func52, Tryz.ntmps52
 go_wp2_with (fail)
 refine (eqIntS_any _ _ xs xs _ (HS.out.ext (((Ext.refl w).alloc _).alloc _)) (HT.out.ext (((Ext.refl w).alloc _).alloc _))).mono ?_
 rw [show eqB xs xs = true by simp [eqB]]
 rintro e W1 ⟨rfl, hE⟩
 have E1 := Lib.hid ((((Ext.refl w).alloc _).alloc _).trans hE)
 clear hE
 go_wp2
 go_ret
 exact ⟨rfl, E1.out⟩
theorem Sh.lv {B : Nat} {w0 w w' : World} {D : Nat → Prop} (h : Sh B w0 w) (hl : Lv D w w') (hD : ∀ g, B ≤ g → g < w0.heap.size → ¬ D g) : Sh B w0 w' := by
 have hb : ∀ g, B ≤ g → g < w0.heap.size → w'.heap[g]? = w.heap[g]? := fun g h1 h2 => hl.block g (Nat.lt_of_lt_of_le h2 h.size) (hD g h1 h2)
 refine ⟨Nat.le_trans h.size hl.size, fun g o u h1 h2 h3 => ?_, fun g o p n c h1 h2 h3 => ?_, fun g o h1 h2 h3 => ?_⟩
 ·rw [World.cell?_of_block (hb g h1 h2)]; exact h.cell g o u h1 h2 h3
 ·rw [World.cell?_of_block (hb g h1 h2)]; exact h.slc g o p n c h1 h2 h3
 ·rw [frozen_block (hb g h1 h2)]; exact h.frz g o h1 h2 h3
end Go.Proofs.YtklehkkclojccaaGreat
