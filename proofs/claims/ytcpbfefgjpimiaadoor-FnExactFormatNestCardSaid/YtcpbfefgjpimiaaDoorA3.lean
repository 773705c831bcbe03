/- Contracts: equality of affine expressions, marks. -/
import Derived.Test.YtcpbfefgjpimiaaDoorA2
namespace Go.Proofs.YtcpbfefgjpimiaaDoor
open Go.RowKit

/-- Two affine expressions are the same. -/
def affEqB (xs : List Int) (c : Int) (ys : List Int) (d : Int) : Bool := eqB xs ys && decide (c = d)

set_option maxHeartbeats 800000 in
theorem eqAffine_any (s t : Value) (xs ys : List Int) (c d : Int) (w : World) (hs : IntsAt w s xs) (ht : IntsAt w t ys) :
    Calls Tryd.prog 11 #[.agg #[s, .int .i64 c], .agg #[t, .int .i64 d]] w fun e w' => e = .returned (.bool (affEqB xs c ys d)) ∧ Ext w w' := by
  obtain ⟨p, k, rfl, hm, hc⟩ := id hs
  obtain ⟨q, l, rfl, hm2, hd⟩ := id ht
  clear hc hd
  have HS := Lib.hid hs; clear hs
  have HT := Lib.hid ht; clear ht
  by_cases hcd : c = d
  · subst hcd
    go_enter Tryd.func11, Tryd.ntmps11
    go_wp2_with (go_at_call 32; refine (eqIntS_any _ _ xs ys _ (HS.out.ext (((Ext.refl w).alloc _).alloc _)) (HT.out.ext (((Ext.refl w).alloc _).alloc _))).mono ?_; rintro e w1 ⟨rfl, hE⟩; obtain ⟨hc1, hf1⟩ := hE.cells; have hsz := hE.size_le; have HE := Lib.hid hE; clear hE)
    · have h := nt (by assumption)
      go_ret
      exact ⟨ret_bool (by simp [affEqB, h]), (((Ext.refl w).alloc _).alloc _).trans HE.out⟩
    · have h := nf (by assumption)
      go_ret
      exact ⟨ret_bool (by simp [affEqB, h]), (((Ext.refl w).alloc _).alloc _).trans HE.out⟩
  · have hb : (c != d) = true := by simp [hcd]
    have HCD := Lib.hid hcd; clear hcd
    go_enter Tryd.func11, Tryd.ntmps11
    go_wp2_with (go_at_call 32; refine (eqIntS_any _ _ xs ys _ (HS.out.ext (((Ext.refl w).alloc _).alloc _)) (HT.out.ext (((Ext.refl w).alloc _).alloc _))).mono ?_; rintro e w1 ⟨rfl, hE⟩; obtain ⟨hc1, hf1⟩ := hE.cells; have hsz := hE.size_le; have HE := Lib.hid hE; clear hE)
    all_goals
      go_ret
      exact ⟨ret_bool (by simp [affEqB, HCD.out]), (((Ext.refl w).alloc _).alloc _).trans HE.out⟩

set_option maxHeartbeats 800000 in
theorem AffineSame_any (s t : Value) (xs ys : List Int) (c d : Int) (w : World) (hs : IntsAt w s xs) (ht : IntsAt w t ys) :
    Calls Tryd.prog 13 #[.agg #[s, .int .i64 c], .agg #[t, .int .i64 d]] w fun e w' => e = .returned (.bool (affEqB xs c ys d)) ∧ Ext w w' := by
  obtain ⟨p, k, rfl, hm, hc⟩ := id hs
  obtain ⟨q, l, rfl, hm2, hd⟩ := id ht
  clear hc hd
  have HS := Lib.hid hs; clear hs
  have HT := Lib.hid ht; clear ht
  by_cases hcd : c = d
  · subst hcd
    go_enter Tryd.func13, Tryd.ntmps13
    go_wp2_with (go_at_call 37; refine (slicesEqual_any _ _ xs ys _ (HS.out.ext (((Ext.refl w).alloc _).alloc _)) (HT.out.ext (((Ext.refl w).alloc _).alloc _))).mono ?_; rintro e w1 ⟨rfl, hE⟩; have HE := Lib.hid hE; clear hE)
    go_ret
    exact ⟨ret_bool (by simp [affEqB]), (((Ext.refl w).alloc _).alloc _).trans HE.out⟩
  · have hb : (c == d) = false := by simp [hcd]
    have HCD := Lib.hid hcd; clear hcd
    go_enter Tryd.func13, Tryd.ntmps13
    go_wp2
    go_ret
    exact ⟨ret_bool (by simp [affEqB, HCD.out]), (((Ext.refl w).alloc _).alloc _)⟩


set_option maxHeartbeats 800000 in
theorem specAffineSame_any (s t : Value) (xs ys : List Int) (c d : Int) (w : World) (hs : IntsAt w s xs) (ht : IntsAt w t ys) :
    Calls Tryd.prog 14 #[.agg #[s, .int .i64 c], .agg #[t, .int .i64 d]] w fun e w' => e = .returned (.bool (affEqB xs c ys d)) ∧ Ext w w' := by
  obtain ⟨p, k, rfl, hm, hc⟩ := id hs
  obtain ⟨q, l, rfl, hm2, hd⟩ := id ht
  clear hc hd
  have HS := Lib.hid hs; clear hs
  have HT := Lib.hid ht; clear ht
  by_cases hcd : c = d
  · subst hcd
    go_enter Tryd.func14, Tryd.ntmps14
    go_wp2_with (go_at_call 38; refine (l1Ints_any _ _ xs ys _ (HS.out.ext (((Ext.refl w).alloc _).alloc _)) (HT.out.ext (((Ext.refl w).alloc _).alloc _))).mono ?_; rintro e w1 ⟨rfl, hE⟩; have HE := Lib.hid hE; clear hE)
    go_ret
    exact ⟨ret_bool (by simp [affEqB]), (((Ext.refl w).alloc _).alloc _).trans HE.out⟩
  · have hb : (c == d) = false := by simp [hcd]
    have HCD := Lib.hid hcd; clear hcd
    go_enter Tryd.func14, Tryd.ntmps14
    go_wp2
    go_ret
    exact ⟨ret_bool (by simp [affEqB, HCD.out]), (((Ext.refl w).alloc _).alloc _)⟩


/-- The marks k, k + 1, .. of n elements. -/
def marks (k : Int) (n : Nat) : List Int := (List.range n).map (fun (i : Nat) => k + (i : Int))
theorem marks_len (k : Int) (n : Nat) : (marks k n).length = n := by simp [marks]
theorem marks_get (k : Int) (n i : Nat) (h : i < n) : (marks k n)[i]? = some (k + (i : Int)) := by simp [marks, h]
theorem marks_next (xs : List Int) (k : Int) (i : Nat) (h : i < xs.length) :
    ((marks k i ++ xs.drop i).map (Value.int .i64)).set i (.int .i64 (k + (i : Int))) = (marks k (i + 1) ++ xs.drop (i + 1)).map (Value.int .i64) := by
  rw [← List.map_set]
  congr 1
  rw [List.drop_eq_getElem_cons h]
  have hl : i = (marks k i).length := (marks_len k i).symm
  conv => lhs; arg 2; rw [hl]
  rw [List.set_append_right _ _ (Nat.le_refl _), Nat.sub_self, List.set_cons_zero]
  simp [marks, List.range_succ]

theorem grownBy_trans {a b c : World} {r : Option Nat} (h : a.grownBy b r) (k : b.grownBy c r) : a.grownBy c r :=
  ⟨k.os.trans h.os, k.tape.trans h.tape, k.output.trans h.output, Nat.le_trans h.size k.size, fun i hi hr => (k.block i (Nat.lt_of_lt_of_le hi h.size) hr).trans (h.block i hi hr)⟩
theorem Ext.grownBy {a b : World} (h : Ext a b) (r : Option Nat) : a.grownBy b r := ⟨h.os, h.tape, h.output, h.size, fun i hi _ => h.block i hi⟩

end Go.Proofs.YtcpbfefgjpimiaaDoor
