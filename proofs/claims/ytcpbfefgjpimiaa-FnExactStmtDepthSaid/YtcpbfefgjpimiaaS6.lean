/- The model's checks of a node's own fields. No statement is proved here. -/
import Derived.Test.YtcpbfefgjpimiaaS5
namespace Go.Proofs.Ytcpbfefgjpimiaa
open Go.RowKit

def emptyB (arr : ByteArray) (subs : List Aff) : Bool := decide (arr.toList = []) && decide (subs.length = 0)
def noneB (a : Aff) : Bool := decide (a.1.length = 0) && decide (a.2 = 0)
def kidsN (kind : Int) : Int := if kind = 1 ∨ kind = 2 ∨ kind = 3 then 0 else if kind = 4 ∨ kind = 5 ∨ kind = 6 then 2 else -1
set_option maxHeartbeats 800000 in
theorem l3Kids_any (kind : Int) (w : World) : Calls Try.prog 49 #[.int .i64 kind] w fun e w' => e = .returned (.int .i64 (kidsN kind)) ∧ w = w' := by
  by_cases h1 : kind = 1
  · subst h1; go_enter Try.func49, Try.ntmps49
    go_wp2
    go_ret
    exact ⟨rfl, rfl⟩
  by_cases h2 : kind = 2
  · subst h2; go_enter Try.func49, Try.ntmps49
    go_wp2
    go_ret
    exact ⟨rfl, rfl⟩
  by_cases h3 : kind = 3
  · subst h3; go_enter Try.func49, Try.ntmps49
    go_wp2
    go_ret
    exact ⟨rfl, rfl⟩
  by_cases h4 : kind = 4
  · subst h4; go_enter Try.func49, Try.ntmps49
    go_wp2
    go_ret
    exact ⟨rfl, rfl⟩
  by_cases h5 : kind = 5
  · subst h5; go_enter Try.func49, Try.ntmps49
    go_wp2
    go_ret
    exact ⟨rfl, rfl⟩
  by_cases h6 : kind = 6
  · subst h6; go_enter Try.func49, Try.ntmps49
    go_wp2
    go_ret
    exact ⟨rfl, rfl⟩
  have hk : Hid (kidsN kind = -1) := Lib.hid (by simp [kidsN, h1, h2, h3, h4, h5, h6])
  have b1 : (kind == 1) = false := by simp [h1]
  have b2 : (kind == 2) = false := by simp [h2]
  have b3 : (kind == 3) = false := by simp [h3]
  have b4 : (kind == 4) = false := by simp [h4]
  have b5 : (kind == 5) = false := by simp [h5]
  have b6 : (kind == 6) = false := by simp [h6]
  clear h1 h2 h3 h4 h5 h6
  go_enter Try.func49, Try.ntmps49
  go_wp2
  go_ret
  exact ⟨by rw [hk.out]; rfl, rfl⟩

set_option maxHeartbeats 800000 in
theorem l3None_any (s : Value) (xs : List Int) (k : Int) (w : World) (hs : IntsAt w s xs) :
    Calls Try.prog 77 #[.agg #[s, .int .i64 k]] w fun e w' => e = .returned (.bool (noneB (xs, k))) ∧ Ext w w' := by
  obtain ⟨p, c, rfl, hm, -⟩ := hs
  by_cases h0 : xs.length = 0
  · have hb : ((xs.length : Int) == 0) = true := beq_iff_eq.2 (by omega)
    by_cases hk : k = 0
    · subst hk
      have HR : Hid (noneB (xs, 0) = true) := Lib.hid (by simp only [noneB]; rw [h0]; rfl)
      clear h0
      go_enter Try.func77, Try.ntmps77
      go_wp2
      go_ret
      exact ⟨ret_bool HR.out.symm, (Ext.refl w).alloc _⟩
    · have hkb : (k == 0) = false := by simp [hk]
      have HR : Hid (noneB (xs, k) = false) := Lib.hid (by simp [noneB, hk])
      clear h0 hk
      go_enter Try.func77, Try.ntmps77
      go_wp2
      go_ret
      exact ⟨ret_bool HR.out.symm, (Ext.refl w).alloc _⟩
  · have hb : ((xs.length : Int) == 0) = false := beq_eq_false_iff_ne.2 (by omega)
    have HR : Hid (noneB (xs, k) = false) := Lib.hid (by simp only [noneB]; rw [decide_eq_false h0]; rfl)
    clear h0
    go_enter Try.func77, Try.ntmps77
    go_wp2
    go_ret
    exact ⟨ret_bool HR.out.symm, (Ext.refl w).alloc _⟩

set_option maxHeartbeats 800000 in
theorem l3Empty_any (arr : ByteArray) (s : Value) (subs : List Aff) (w : World) (hs : AffsAt w s subs) :
    Calls Try.prog 76 #[.agg #[.string arr, s]] w fun e w' => e = .returned (.bool (emptyB arr subs)) ∧ Ext w w' := by
  obtain ⟨p, c, rfl, hm⟩ := hs.form
  by_cases ha : arr.toList = []
  · by_cases h0 : subs.length = 0
    · have hb : ((subs.length : Int) == 0) = true := beq_iff_eq.2 (by omega)
      have HR : Hid (emptyB arr subs = true) := Lib.hid (by simp only [emptyB]; rw [h0, decide_eq_true ha]; rfl)
      clear h0
      go_enter Try.func76, Try.ntmps76
      go_wp2
      go_ret
      exact ⟨ret_bool HR.out.symm, (Ext.refl w).alloc _⟩
    · have hb : ((subs.length : Int) == 0) = false := beq_eq_false_iff_ne.2 (by omega)
      have HR : Hid (emptyB arr subs = false) := Lib.hid (by simp only [emptyB]; rw [decide_eq_false h0]; simp)
      clear h0
      go_enter Try.func76, Try.ntmps76
      go_wp2
      go_ret
      exact ⟨ret_bool HR.out.symm, (Ext.refl w).alloc _⟩
  · have HR : Hid (emptyB arr subs = false) := Lib.hid (by simp only [emptyB]; rw [decide_eq_false ha]; rfl)
    have hb : arr.toList.isEmpty = false := by simpa using ha
    go_enter Try.func76, Try.ntmps76
    go_wp2
    go_ret
    exact ⟨ret_bool HR.out.symm, (Ext.refl w).alloc _⟩
end Go.Proofs.Ytcpbfefgjpimiaa
