/- The texts S6 S11, joined. No statement is proved here. -/
import Derived.Test.YtccibfldadflkaaQV15
import Derived.Lib.Bytealg
/- The model's checks of a node's own fields. No statement is proved here. -/
namespace Go.Proofs.Ytccibfldadflkaa
open Go.RowKit

def emptyB (arr : ByteArray) (subs : List Aff) : Bool := decide (arr.toList = []) && decide (subs.length = 0)
def noneB (a : Aff) : Bool := decide (a.1.length = 0) && decide (a.2 = 0)
def kidsN (kind : Int) : Int := if kind = 1 ∨ kind = 2 ∨ kind = 3 then 0 else if kind = 4 ∨ kind = 5 ∨ kind = 6 then 2 else -1
set_option maxHeartbeats 800000 in
theorem l3Kids_any (kind : Int) (w : World) : Calls Try.prog 91 #[.int .i64 kind] w fun e w' => e = .returned (.int .i64 (kidsN kind)) ∧ w = w' := by
  by_cases h1 : kind = 1
  · subst h1; go_enter Try.func91, Try.ntmps91
    go_wp2
    go_ret
    exact ⟨rfl, rfl⟩
  by_cases h2 : kind = 2
  · subst h2; go_enter Try.func91, Try.ntmps91
    go_wp2
    go_ret
    exact ⟨rfl, rfl⟩
  by_cases h3 : kind = 3
  · subst h3; go_enter Try.func91, Try.ntmps91
    go_wp2
    go_ret
    exact ⟨rfl, rfl⟩
  by_cases h4 : kind = 4
  · subst h4; go_enter Try.func91, Try.ntmps91
    go_wp2
    go_ret
    exact ⟨rfl, rfl⟩
  by_cases h5 : kind = 5
  · subst h5; go_enter Try.func91, Try.ntmps91
    go_wp2
    go_ret
    exact ⟨rfl, rfl⟩
  by_cases h6 : kind = 6
  · subst h6; go_enter Try.func91, Try.ntmps91
    go_wp2
    go_ret
    exact ⟨rfl, rfl⟩
  have hk : Hid (kidsN kind = -1) := Lib.hid (by simp [kidsN, h1, h2, h3, h4, h5, h6])
  have b1 : (kind == 1) = false := by simp [h1]
  have b2 : (kind == 2) = false := by simp [h2]
  have b3 : (kind == 3) = false := by simp [h3]
  have b4 : (kind == 4) = false := by simp [h4]
  have b5 : (kind == 5) = false := by simp [h5]
  have b6 : (kind == 6) = false := by simp [h6]
  clear h1 h2 h3 h4 h5 h6
  go_enter Try.func91, Try.ntmps91
  go_wp2
  go_ret
  exact ⟨by rw [hk.out]; rfl, rfl⟩

set_option maxHeartbeats 800000 in
theorem l3None_any (s : Value) (xs : List Int) (k : Int) (w : World) (hs : IntsAt w s xs) :
    Calls Try.prog 111 #[.agg #[s, .int .i64 k]] w fun e w' => e = .returned (.bool (noneB (xs, k))) ∧ Ext w w' := by
  obtain ⟨p, c, rfl, hm, -⟩ := hs
  by_cases h0 : xs.length = 0
  · have hb : ((xs.length : Int) == 0) = true := beq_iff_eq.2 (by omega)
    by_cases hk : k = 0
    · subst hk
      have HR : Hid (noneB (xs, 0) = true) := Lib.hid (by simp only [noneB]; rw [h0]; rfl)
      clear h0
      go_enter Try.func111, Try.ntmps111
      go_wp2
      go_ret
      exact ⟨ret_bool HR.out.symm, (Ext.refl w).alloc _⟩
    · have hkb : (k == 0) = false := by simp [hk]
      have HR : Hid (noneB (xs, k) = false) := Lib.hid (by simp [noneB, hk])
      clear h0 hk
      go_enter Try.func111, Try.ntmps111
      go_wp2
      go_ret
      exact ⟨ret_bool HR.out.symm, (Ext.refl w).alloc _⟩
  · have hb : ((xs.length : Int) == 0) = false := beq_eq_false_iff_ne.2 (by omega)
    have HR : Hid (noneB (xs, k) = false) := Lib.hid (by simp only [noneB]; rw [decide_eq_false h0]; rfl)
    clear h0
    go_enter Try.func111, Try.ntmps111
    go_wp2
    go_ret
    exact ⟨ret_bool HR.out.symm, (Ext.refl w).alloc _⟩

set_option maxHeartbeats 800000 in
theorem l3Empty_any (arr : ByteArray) (s : Value) (subs : List Aff) (w : World) (hs : AffsAt w s subs) :
    Calls Try.prog 110 #[.agg #[.string arr, s]] w fun e w' => e = .returned (.bool (emptyB arr subs)) ∧ Ext w w' := by
  obtain ⟨p, c, rfl, hm⟩ := hs.form
  by_cases ha : arr.toList = []
  · by_cases h0 : subs.length = 0
    · have hb : ((subs.length : Int) == 0) = true := beq_iff_eq.2 (by omega)
      have HR : Hid (emptyB arr subs = true) := Lib.hid (by simp only [emptyB]; rw [h0, decide_eq_true ha]; rfl)
      clear h0
      go_enter Try.func110, Try.ntmps110
      go_wp2
      go_ret
      exact ⟨ret_bool HR.out.symm, (Ext.refl w).alloc _⟩
    · have hb : ((subs.length : Int) == 0) = false := beq_eq_false_iff_ne.2 (by omega)
      have HR : Hid (emptyB arr subs = false) := Lib.hid (by simp only [emptyB]; rw [decide_eq_false h0]; simp)
      clear h0
      go_enter Try.func110, Try.ntmps110
      go_wp2
      go_ret
      exact ⟨ret_bool HR.out.symm, (Ext.refl w).alloc _⟩
  · have HR : Hid (emptyB arr subs = false) := Lib.hid (by simp only [emptyB]; rw [decide_eq_false ha]; rfl)
    have hb : arr.toList.isEmpty = false := by simpa using ha
    go_enter Try.func110, Try.ntmps110
    go_wp2
    go_ret
    exact ⟨ret_bool HR.out.symm, (Ext.refl w).alloc _⟩
end Go.Proofs.Ytccibfldadflkaa

/- The program's check of an array's name. No statement is proved here. -/
namespace Go.Proofs.Ytccibfldadflkaa
open Go.RowKit

theorem idxB_arr (b : UInt8) : arrB ⟨#[b]⟩ = decide (0 ≤ Lib.indexByte [65, 66, 67, 68] b) := by
  have h : ∀ n : Fin 256, arrB ⟨#[UInt8.ofNat n.val]⟩ = decide (0 ≤ Lib.indexByte [65, 66, 67, 68] (UInt8.ofNat n.val)) := by decide +kernel
  have := h ⟨b.toNat, b.toNat_lt⟩
  simpa using this

set_option maxRecDepth 100000 in
set_option maxHeartbeats 800000 in
theorem arrayValid_any (arr : ByteArray) (w : World) (ha : arr.size ≤ 9223372036854775807) :
    Calls Try.prog 106 #[.string arr] w fun r w' => r = .returned (.bool (arrB arr)) ∧ w = w' := by
  by_cases hsz : arr.size = 1
  · obtain ⟨b, rfl⟩ := one_byte hsz
    clear hsz ha
    go_enter Try.func106, Try.ntmps106
    go_wp2
    rw [run_callFunc_extern Try.func132 (by kernel_rfl) (by kernel_rfl) (by kernel_rfl) (e := Extern.BytealgIndexByte.indexByte) (by kernel_rfl), Lib.run_indexByteString]
    simp only [Result.andThen]
    rw [Oper.upon_value]
    go_wp2
    go_ret
    exact ⟨ret_bool (idxB_arr b).symm, rfl⟩
  · have hb : ((arr.size : Int) == 1) = false := beq_eq_false_iff_ne.2 (by omega)
    have HR := Lib.hid (arrB_no hsz); clear hsz
    go_enter Try.func106, Try.ntmps106
    go_wp2
    go_ret
    exact ⟨ret_bool HR.out.symm, rfl⟩
end Go.Proofs.Ytccibfldadflkaa
