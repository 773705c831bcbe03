/- The texts A3, joined. No statement is proved here. -/
import Derived.Test.YtccibfldadflkaaQS02
/- Contracts: equality of affine expressions, marks. -/
namespace Go.Proofs.Ytccibfldadflkaa
open Go.RowKit

/-- Two affine expressions are the same. -/
def affEqB (xs : List Int) (c : Int) (ys : List Int) (d : Int) : Bool := eqB xs ys && decide (c = d)

set_option maxHeartbeats 800000 in
theorem eqAffine_any (s t : Value) (xs ys : List Int) (c d : Int) (w : World) (hs : IntsAt w s xs) (ht : IntsAt w t ys) :
    Calls Try.prog 18 #[.agg #[s, .int .i64 c], .agg #[t, .int .i64 d]] w fun e w' => e = .returned (.bool (affEqB xs c ys d)) ∧ Ext w w' := by
  obtain ⟨p, k, rfl, hm, hc⟩ := id hs
  obtain ⟨q, l, rfl, hm2, hd⟩ := id ht
  clear hc hd
  have HS := Lib.hid hs; clear hs
  have HT := Lib.hid ht; clear ht
  by_cases hcd : c = d
  · subst hcd
    go_enter Try.func18, Try.ntmps18
    go_wp2_with (go_at_call 10; refine (eqIntS_any _ _ xs ys _ (HS.out.ext (((Ext.refl w).alloc _).alloc _)) (HT.out.ext (((Ext.refl w).alloc _).alloc _))).mono ?_; rintro e w1 ⟨rfl, hE⟩; obtain ⟨hc1, hf1⟩ := hE.cells; have hsz := hE.size_le; have HE := Lib.hid hE; clear hE)
    · have h := nt (by assumption)
      go_ret
      exact ⟨ret_bool (by simp [affEqB, h]), (((Ext.refl w).alloc _).alloc _).trans HE.out⟩
    · have h := nf (by assumption)
      go_ret
      exact ⟨ret_bool (by simp [affEqB, h]), (((Ext.refl w).alloc _).alloc _).trans HE.out⟩
  · have hb : (c != d) = true := by simp [hcd]
    have HCD := Lib.hid hcd; clear hcd
    go_enter Try.func18, Try.ntmps18
    go_wp2_with (go_at_call 10; refine (eqIntS_any _ _ xs ys _ (HS.out.ext (((Ext.refl w).alloc _).alloc _)) (HT.out.ext (((Ext.refl w).alloc _).alloc _))).mono ?_; rintro e w1 ⟨rfl, hE⟩; obtain ⟨hc1, hf1⟩ := hE.cells; have hsz := hE.size_le; have HE := Lib.hid hE; clear hE)
    all_goals
      go_ret
      exact ⟨ret_bool (by simp [affEqB, HCD.out]), (((Ext.refl w).alloc _).alloc _).trans HE.out⟩

theorem grownBy_trans {a b c : World} {r : Option Nat} (h : a.grownBy b r) (k : b.grownBy c r) : a.grownBy c r :=
  ⟨k.os.trans h.os, k.tape.trans h.tape, k.output.trans h.output, Nat.le_trans h.size k.size, fun i hi hr => (k.block i (Nat.lt_of_lt_of_le hi h.size) hr).trans (h.block i hi hr)⟩
theorem Ext.grownBy {a b : World} (h : Ext a b) (r : Option Nat) : a.grownBy b r := ⟨h.os, h.tape, h.output, h.size, fun i hi _ => h.block i hi⟩

end Go.Proofs.Ytccibfldadflkaa
