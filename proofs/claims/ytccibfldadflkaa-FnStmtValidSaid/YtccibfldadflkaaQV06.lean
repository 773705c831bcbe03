/- The texts A7, joined. No statement is proved here. -/
import Derived.Test.YtccibfldadflkaaQV29
/- Contracts: depths and values of affine expressions. -/
namespace Go.Proofs.Ytccibfldadflkaa
open Go.RowKit

def dep4 (a b c d : Int) : Int := if d ≠ 0 then 4 else if c ≠ 0 then 3 else if b ≠ 0 then 2 else if a ≠ 0 then 1 else 0

set_option maxHeartbeats 1000000 in
theorem depth_any (a b c d k : Int) (w : World) :
    Calls Try.prog 71 #[.agg #[.int .i64 a, .int .i64 b, .int .i64 c, .int .i64 d, .int .i64 k]] w fun e w' => e = .returned (.int .i64 (dep4 a b c d)) ∧ Ext w w' := by
  by_cases hd : d = 0
  · by_cases hc : c = 0
    · by_cases hb : b = 0
      · by_cases ha : a = 0
        · subst hd hc hb ha
          go_enter Try.func71, Try.ntmps71
          go_wp2
          go_rounds 5
          go_ret
          exact ⟨rfl, (Ext.refl w).alloc _⟩
        · subst hd hc hb
          have h : (a != 0) = true := by simp [ha]
          have HA := Lib.hid ha; clear ha
          go_enter Try.func71, Try.ntmps71
          go_wp2
          go_rounds 5
          go_ret
          exact ⟨ret_int (by simp [dep4, HA.out]), (Ext.refl w).alloc _⟩
      · subst hd hc
        have h : (b != 0) = true := by simp [hb]
        have HA := Lib.hid hb; clear hb
        go_enter Try.func71, Try.ntmps71
        go_wp2
        go_rounds 5
        go_ret
        exact ⟨ret_int (by simp [dep4, HA.out]), (Ext.refl w).alloc _⟩
    · subst hd
      have h : (c != 0) = true := by simp [hc]
      have HA := Lib.hid hc; clear hc
      go_enter Try.func71, Try.ntmps71
      go_wp2
      go_rounds 5
      go_ret
      exact ⟨ret_int (by simp [dep4, HA.out]), (Ext.refl w).alloc _⟩
  · have h : (d != 0) = true := by simp [hd]
    have HA := Lib.hid hd; clear hd
    go_enter Try.func71, Try.ntmps71
    go_wp2
    go_rounds 5
    go_ret
    exact ⟨ret_int (by simp [dep4, HA.out]), (Ext.refl w).alloc _⟩

/-- The depth of an expression: of one that isn't valid, 0. -/
def depR (xs : List Int) (k : Int) : Int := if affValidB xs k = true then dep4 (xs.getD 0 0) (xs.getD 1 0) (xs.getD 2 0) (xs.getD 3 0) else 0

set_option maxHeartbeats 4000000 in
theorem l1Depth_four (s : Value) (a b c d k : Int) (w : World) (hs : IntsAt w s [a, b, c, d]) :
    Calls Try.prog 36 #[.agg #[s, .int .i64 k]] w fun e w' => e = .returned (.int .i64 (dep4 a b c d)) ∧ Ext w w' := by
  obtain ⟨bl, off, cap, rfl, h0, h1, h2, h3, hbl⟩ := hs.four
  clear hs
  go_enter Try.func36, Try.ntmps36
  go_wp2
  go_rounds 5
  all_goals
    go_ret
    refine ⟨ret_int ?_, (Ext.refl w).alloc _⟩
    clear h0 h1 h2 h3 hbl
    simp_all [dep4]
end Go.Proofs.Ytccibfldadflkaa
