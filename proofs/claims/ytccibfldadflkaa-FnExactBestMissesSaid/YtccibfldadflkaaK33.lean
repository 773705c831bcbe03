/- The texts M1 A11, joined. No statement is proved here. -/
import Derived.Test.YtccibfldadflkaaK02
import Derived.Test.YtccibfldadflkaaK04
/- Contracts: the order of points. -/
namespace Go.Proofs.Ytccibfldadflkaa
open Go.RowKit

def cmp3 (x y : Int) : Int := if x < y then -1 else if y < x then 1 else 0

set_option maxHeartbeats 1000000 in
theorem isNaN_any (x : Int) (w : World) : Calls Try.prog 95 #[.int .i64 x] w fun e w' => e = .returned (.bool false) ∧ w = w' := by
  go_enter Try.func95, Try.ntmps95
  go_wp2
  go_ret
  exact ⟨ret_bool (by simp), rfl⟩

set_option maxHeartbeats 1000000 in
theorem cmp_any (x y : Int) (w : World) : Calls Try.prog 64 #[.int .i64 x, .int .i64 y] w fun e w' => e = .returned (.int .i64 (cmp3 x y)) ∧ w = w' := by
  have hc : x < y ∨ y < x ∨ x = y := by omega
  rcases hc with h | h | h
  · go_enter Try.func64, Try.ntmps64
    go_wp2_with (fail)
    refine (isNaN_any x _).mono ?_
    rintro e w1 ⟨rfl, rfl⟩
    go_wp2_with (fail)
    refine (isNaN_any y _).mono ?_
    rintro e w1 ⟨rfl, rfl⟩
    go_wp2
    go_ret
    exact ⟨ret_int (by simp [cmp3, h]), rfl⟩
  · go_enter Try.func64, Try.ntmps64
    go_wp2_with (fail)
    refine (isNaN_any x _).mono ?_
    rintro e w1 ⟨rfl, rfl⟩
    go_wp2_with (fail)
    refine (isNaN_any y _).mono ?_
    rintro e w1 ⟨rfl, rfl⟩
    go_wp2
    go_ret
    exact ⟨ret_int (by unfold cmp3; rw [if_neg (by omega), if_pos h]), rfl⟩
  · subst h
    go_enter Try.func64, Try.ntmps64
    go_wp2_with (fail)
    refine (isNaN_any x _).mono ?_
    rintro e w1 ⟨rfl, rfl⟩
    go_wp2_with (fail)
    refine (isNaN_any x _).mono ?_
    rintro e w1 ⟨rfl, rfl⟩
    go_wp2
    go_ret
    exact ⟨ret_int (by simp [cmp3]), rfl⟩

end Go.Proofs.Ytccibfldadflkaa

/- Contracts: marks in an affine expression; what stays beside them. -/
namespace Go.Proofs.Ytccibfldadflkaa
open Go.RowKit

theorem IntsOwn.row {B n : Nat} {w : World} {v : Value} {xs : List Int} (h : IntsOwn B w v xs) (hn : xs.length = n) : w.ownsRow B 3 1 v n (xs.map (Value.int .i64)) := by
  unfold IntsOwn at h; rwa [hn] at h
end Go.Proofs.Ytccibfldadflkaa
