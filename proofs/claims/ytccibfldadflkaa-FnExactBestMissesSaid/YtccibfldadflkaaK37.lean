/- The texts U8 U9, joined. No statement is proved here. -/
import Derived.Test.YtccibfldadflkaaK36
/- Misses of a cache that drops the cell used least recently: model and program (by u8.py). No statement is proved here. -/
namespace Go.Proofs.Ytccibfldadflkaa
open Go.RowKit Go.Maps
attribute [local go_sem] Oper.semAt_some

theorem fits_any (p : Option Addr) (n c : Nat) (z : Int) (w : World) (hm : n ≤ 9223372036854775807) :
    Calls Try.prog 27 #[.slice p n c, .int .i64 z] w fun e w' => e = .returned (.bool (decide (n ≤ 600 ∧ 0 ≤ z ∧ z ≤ 40))) ∧ w' = w := by
  by_cases h1 : n ≤ 600
  · have h1I : (n : Int) ≤ 600 := by omega
    by_cases h2 : (0 : Int) ≤ z
    · by_cases h3 : z ≤ 40
      · rw [decide_eq_true (show n ≤ 600 ∧ 0 ≤ z ∧ z ≤ 40 from ⟨h1, h2, h3⟩)]
        go_enter Try.func27, Try.ntmps27
        go_wp2
        go_ret
        exact ⟨rfl, rfl⟩
      · rw [decide_eq_false (show ¬ (n ≤ 600 ∧ 0 ≤ z ∧ z ≤ 40) from fun h => h3 h.2.2)]
        go_enter Try.func27, Try.ntmps27
        go_wp2
        go_ret
        exact ⟨rfl, rfl⟩
    · rw [decide_eq_false (show ¬ (n ≤ 600 ∧ 0 ≤ z ∧ z ≤ 40) from fun h => h2 h.2.1)]
      go_enter Try.func27, Try.ntmps27
      go_wp2
      go_ret
      exact ⟨rfl, rfl⟩
  · have h1I : ¬ (n : Int) ≤ 600 := by omega
    rw [decide_eq_false (show ¬ (n ≤ 600 ∧ 0 ≤ z ∧ z ≤ 40) from fun h => h1 h.1)]
    go_enter Try.func27, Try.ntmps27
    go_wp2
    go_ret
    exact ⟨rfl, rfl⟩
end Go.Proofs.Ytccibfldadflkaa

/- Misses of the program with a cache that drops the cell used least recently (by u8.py). No statement is proved here. -/
namespace Go.Proofs.Ytccibfldadflkaa
open Go.RowKit Go.Maps
attribute [local go_sem] Oper.semAt_some

end Go.Proofs.Ytccibfldadflkaa
