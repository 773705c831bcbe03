/- The texts G1 S11, joined. No statement is proved here. -/
import Derived.Test.YtggpjapmhakklaaK45
import Derived.Test.YtggpjapmhakklaaK39
import Derived.Lib.Bytealg
/- Contracts of the laws' own helpers for programs: sizes. No statement is proved here. -/
namespace Go.Proofs.Ytggpjapmhakklaa
open Go.RowKit

end Go.Proofs.Ytggpjapmhakklaa

/- The program's check of an array's name. No statement is proved here. -/
namespace Go.Proofs.Ytggpjapmhakklaa
open Go.RowKit

theorem idxB_arr (b : UInt8) : arrB ⟨#[b]⟩ = decide (0 ≤ Lib.indexByte [65, 66, 67, 68] b) := by
  have h : ∀ n : Fin 256, arrB ⟨#[UInt8.ofNat n.val]⟩ = decide (0 ≤ Lib.indexByte [65, 66, 67, 68] (UInt8.ofNat n.val)) := by decide +kernel
  have := h ⟨b.toNat, b.toNat_lt⟩
  simpa using this

set_option maxRecDepth 100000 in
set_option maxHeartbeats 800000 in
theorem arrayValid_any (arr : ByteArray) (w : World) (ha : arr.size ≤ 9223372036854775807) :
    Calls Try.prog 99 #[.string arr] w fun r w' => r = .returned (.bool (arrB arr)) ∧ w = w' := by
  by_cases hsz : arr.size = 1
  · obtain ⟨b, rfl⟩ := one_byte hsz
    clear hsz ha
    go_enter Try.func99, Try.ntmps99
    go_wp2
    rw [run_callFunc_extern Try.func145 (by kernel_rfl) (by kernel_rfl) (by kernel_rfl) (e := Extern.BytealgIndexByte.indexByte) (by kernel_rfl), Lib.run_indexByteString]
    simp only [Result.andThen]
    rw [Oper.upon_value]
    go_wp2
    go_ret
    exact ⟨ret_bool (idxB_arr b).symm, rfl⟩
  · have hb : ((arr.size : Int) == 1) = false := beq_eq_false_iff_ne.2 (by omega)
    have HR := Lib.hid (arrB_no hsz); clear hsz
    go_enter Try.func99, Try.ntmps99
    go_wp2
    go_ret
    exact ⟨ret_bool HR.out.symm, rfl⟩
end Go.Proofs.Ytggpjapmhakklaa
