/- Contracts: depths and values of affine expressions. -/
import Derived.Test.YtabkhiakekammaaA6
namespace Go.Proofs.Ytabkhiakekammaa
open Go.RowKit

def dep4 (a b c d : Int) : Int := if d ≠ 0 then 4 else if c ≠ 0 then 3 else if b ≠ 0 then 2 else if a ≠ 0 then 1 else 0

set_option maxHeartbeats 1000000 in
theorem depth_any (a b c d k : Int) (w : World) :
    Calls Try.prog 81 #[.agg #[.int .i64 a, .int .i64 b, .int .i64 c, .int .i64 d, .int .i64 k]] w fun e w' => e = .returned (.int .i64 (dep4 a b c d)) ∧ Ext w w' := by
  by_cases hd : d = 0
  · by_cases hc : c = 0
    · by_cases hb : b = 0
      · by_cases ha : a = 0
        · subst hd hc hb ha
          go_enter Try.func81, Try.ntmps81
          go_wp2
          go_rounds 5
          go_ret
          exact ⟨rfl, (Ext.refl w).alloc _⟩
        · subst hd hc hb
          have h : (a != 0) = true := by simp [ha]
          have HA := Lib.hid ha; clear ha
          go_enter Try.func81, Try.ntmps81
          go_wp2
          go_rounds 5
          go_ret
          exact ⟨ret_int (by simp [dep4, HA.out]), (Ext.refl w).alloc _⟩
      · subst hd hc
        have h : (b != 0) = true := by simp [hb]
        have HA := Lib.hid hb; clear hb
        go_enter Try.func81, Try.ntmps81
        go_wp2
        go_rounds 5
        go_ret
        exact ⟨ret_int (by simp [dep4, HA.out]), (Ext.refl w).alloc _⟩
    · subst hd
      have h : (c != 0) = true := by simp [hc]
      have HA := Lib.hid hc; clear hc
      go_enter Try.func81, Try.ntmps81
      go_wp2
      go_rounds 5
      go_ret
      exact ⟨ret_int (by simp [dep4, HA.out]), (Ext.refl w).alloc _⟩
  · have h : (d != 0) = true := by simp [hd]
    have HA := Lib.hid hd; clear hd
    go_enter Try.func81, Try.ntmps81
    go_wp2
    go_rounds 5
    go_ret
    exact ⟨ret_int (by simp [dep4, HA.out]), (Ext.refl w).alloc _⟩

/-- The depth of an expression: of one that isn't valid, 0. -/
def depR (xs : List Int) (k : Int) : Int := if affValidB xs k = true then dep4 (xs.getD 0 0) (xs.getD 1 0) (xs.getD 2 0) (xs.getD 3 0) else 0

set_option maxHeartbeats 1000000 in
theorem AffineDepth_any (s : Value) (xs : List Int) (k : Int) (w : World) (hs : IntsAt w s xs) :
    Calls Try.prog 29 #[.agg #[s, .int .i64 k]] w fun e w' => e = .returned (.int .i64 (depR xs k)) ∧ Ext w w' := by
  have HS := Lib.hid hs; clear hs
  obtain ⟨p, cp, rfl, -, -⟩ := HS.out
  cases hv : affValidB xs k with
  | true =>
    obtain ⟨a, b, c, d, rfl, _⟩ := valid_four hv
    have hR : depR [a, b, c, d] k = dep4 a b c d := by unfold depR; rw [if_pos hv]; rfl
    rw [hR]; clear hR
    have HV := Lib.hid hv; clear hv
    go_enter Try.func29, Try.ntmps29
    go_wp2_with (fail)
    refine (linearOf_yes _ a b c d k _ (HS.out.ext ((Ext.refl w).alloc _)) HV.out).mono ?_
    rintro e W1 ⟨rfl, hE⟩
    have E1 : Hid (Ext w W1) := ((Ext.refl w).alloc _).trans hE
    clear hE
    go_wp2_with (fail)
    refine (depth_any a b c d k _).mono ?_
    rintro e W2 ⟨rfl, hE⟩
    have E2 : Hid (Ext w W2) := (E1.out.alloc _).trans hE
    clear hE
    go_wp2
    go_ret
    exact ⟨rfl, E2.out⟩
  | false =>
    have hR : depR xs k = 0 := by unfold depR; rw [if_neg (by rw [hv]; decide)]
    rw [hR]; clear hR
    have HV := Lib.hid hv; clear hv
    go_enter Try.func29, Try.ntmps29
    go_wp2_with (fail)
    refine (linearOf_no _ xs k _ (HS.out.ext ((Ext.refl w).alloc _)) HV.out).mono ?_
    rintro e W1 ⟨rfl, hE⟩
    have E1 : Hid (Ext w W1) := ((Ext.refl w).alloc _).trans hE
    clear hE
    go_wp2
    go_ret
    exact ⟨rfl, E1.out.alloc _⟩

set_option maxHeartbeats 4000000 in
theorem l1Depth_four (s : Value) (a b c d k : Int) (w : World) (hs : IntsAt w s [a, b, c, d]) :
    Calls Try.prog 82 #[.agg #[s, .int .i64 k]] w fun e w' => e = .returned (.int .i64 (dep4 a b c d)) ∧ Ext w w' := by
  obtain ⟨bl, off, cap, rfl, h0, h1, h2, h3, hbl⟩ := hs.four
  clear hs
  go_enter Try.func82, Try.ntmps82
  go_wp2
  go_rounds 5
  all_goals
    go_ret
    refine ⟨ret_int ?_, (Ext.refl w).alloc _⟩
    clear h0 h1 h2 h3 hbl
    simp_all [dep4]
end Go.Proofs.Ytabkhiakekammaa
