/- The model's numbers as text. No statement is proved here. -/
import Derived.Test.YtclgbnilfipobabT2
import Derived.Test.YtclgbnilfipobabA5
import Derived.Laws.IdiomStrings
namespace Go.Proofs.Ytclgbnilfipobab
open Go.RowKit

theorem ret_str {a b : ByteArray} (h : a = b) : Ending.returned (.string a) = .returned (.string b) := by rw [h]
theorem conv1 (w : World) (g c : Nat) (hc : c ≤ 255) (h : w.cell? ⟨g, 0, none⟩ = some (.int .u8 (c : Int))) : Sem.run Try.prog (convert 28 9 (.slice (some ⟨g, 0, none⟩) 1 1)) w = .ok (.string ⟨#[UInt8.ofNat c]⟩) w := by
  have := run_convert_bytes_back (P := Try.prog) w 28 9 5 ⟨g, 0, none⟩ 1 [UInt8.ofNat c] Try.underlying28 Try.underlying5 Try.underlying9 (fun j hj => by
    match j, hj with
    | 0, _ =>
      simp only [List.getElem_cons_zero]
      rw [Addr.add_lit]
      simp only [Nat.add_zero]
      rw [h]
      congr 2
      simp [UInt8.toNat_ofNat']
      omega)
  exact this
theorem str_app (l m : List UInt8) : (ByteArray.mk l.toArray ++ ByteArray.mk m.toArray) = ⟨(l ++ m).toArray⟩ := by
  apply ByteArray.ext
  simp

end Go.Proofs.Ytclgbnilfipobab
