/- The model's numbers as text. No statement is proved here. -/
import Derived.Test.YtcpbfefgjpimiaaDoorT2
import Derived.Test.YtcpbfefgjpimiaaDoorA5
import Derived.Laws.IdiomStrings
namespace Go.Proofs.YtcpbfefgjpimiaaDoor
open Go.RowKit

theorem ret_str {a b : ByteArray} (h : a = b) : Ending.returned (.string a) = .returned (.string b) := by rw [h]
theorem conv1 (w : World) (g c : Nat) (hc : c ≤ 255) (h : w.cell? ⟨g, 0, none⟩ = some (.int .u8 (c : Int))) : Sem.run Tryd.prog (convert 31 9 (.slice (some ⟨g, 0, none⟩) 1 1)) w = .ok (.string ⟨#[UInt8.ofNat c]⟩) w := by
  have := run_convert_bytes_back (P := Tryd.prog) w 31 9 5 ⟨g, 0, none⟩ 1 [UInt8.ofNat c] Tryd.underlying31 Tryd.underlying5 Tryd.underlying9 (fun j hj => by
    match j, hj with
    | 0, _ =>
      simp only [List.getElem_cons_zero]
      rw [Addr.add_lit]
      simp only [Nat.add_zero]
      rw [h]
      congr 2
      simp [UInt8.toNat_ofNat']
      omega)
  exact this
theorem str_app (l m : List UInt8) : (ByteArray.mk l.toArray ++ ByteArray.mk m.toArray) = ⟨(l ++ m).toArray⟩ := by
  apply ByteArray.ext
  simp

set_option maxRecDepth 100000 in
set_option maxHeartbeats 1000000 in
theorem l16Dec_any (u : Nat) (w : World) (hu : u ≤ 99) :
    Calls Tryd.prog 77 #[.int .i64 (u : Int)] w fun e w' => e = .returned (.string ⟨(dg u).toArray⟩) ∧ Ext w w' := by
  by_cases h9 : u ≤ 9
  · have hd : decide (9 < (u : Int)) = false := by simp; omega
    have hcv := conv1 (w.alloc (.cells #[.int .u8 (48 + (u : Int))] 5)) w.heap.size (48 + u) (by omega) (by simp [go_sem])
    have HR : Hid (dg u = [UInt8.ofNat (48 + u)]) := Lib.hid (by unfold dg; rw [if_pos (by omega)])
    go_enter Tryd.func77, Tryd.ntmps77
    go_wp2
    go_rounds 1
    go_ret
    refine ⟨?_, (Ext.refl w).alloc _⟩
    rw [HR.out]
    refine ret_str ?_
    apply ByteArray.ext
    simp
  · obtain ⟨d, hdd⟩ : ∃ d, u / 10 = d := ⟨_, rfl⟩
    obtain ⟨m, hmm⟩ : ∃ m, u % 10 = m := ⟨_, rfl⟩
    have hd : decide (9 < (u : Int)) = true := by simp; omega
    have hq : (u : Int) / 10 = (d : Int) := by omega
    have hr : (u : Int) % 10 = (m : Int) := by omega
    have hd9 : decide (9 < (d : Int)) = false := by simp; omega
    have hm9 : m ≤ 9 := by omega
    have hd8 : d ≤ 9 := by omega
    have HR : Hid (dg u = [UInt8.ofNat (48 + d), UInt8.ofNat (48 + m)]) := Lib.hid (by unfold dg; rw [if_neg (by omega), hdd, hmm])
    have hcv := conv1 (w.alloc (.cells #[.int .u8 (48 + (m : Int))] 5)) w.heap.size (48 + m) (by omega) (by simp [go_sem])
    have hcv2 := conv1 ((w.alloc (.cells #[.int .u8 (48 + (m : Int))] 5)).alloc (.cells #[.int .u8 (48 + (d : Int))] 5)) (w.heap.size + 1) (48 + d) (by omega) (by simp [go_sem])
    clear hdd hmm h9
    go_enter Tryd.func77, Tryd.ntmps77
    go_wp2
    go_rounds 2
    go_ret
    refine ⟨?_, ((Ext.refl w).alloc _).alloc _⟩
    rw [HR.out]
    refine ret_str ?_
    apply ByteArray.ext
    simp
end Go.Proofs.YtcpbfefgjpimiaaDoor
