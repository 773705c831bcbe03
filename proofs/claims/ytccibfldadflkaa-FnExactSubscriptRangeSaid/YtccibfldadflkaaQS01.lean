/- The texts A1, joined. No statement is proved here. -/
import Derived.Test.YtccibfldadflkaaQS00
import Derived.BigQuiet
import Derived.Deep.QuietTactic
/- Contracts of the small functions: tests of limits, validity. -/
namespace Go.Proofs.Ytccibfldadflkaa
open Go.RowKit

set_option maxHeartbeats 400000 in
theorem within_any (n l : Int) (w : World) (h0 : 0 ≤ l) (h1 : l ≤ 1000000) :
    Calls Try.prog 103 #[.int .i64 n, .int .i64 l] w fun e w' => e = .returned (.bool (withinB n l)) ∧ w = w' := by
  by_cases a : -l ≤ n
  · go_enter Try.func103, Try.ntmps103
    go_wp2
    go_ret
    exact ⟨ret_bool (by simp [withinB, a]), rfl⟩
  · go_enter Try.func103, Try.ntmps103
    go_wp2
    go_ret
    exact ⟨ret_bool (by simp [withinB]; omega), rfl⟩

set_option maxHeartbeats 400000 in
theorem l1Within_any (n l : Int) (w : World) (h0 : 0 ≤ l) (h1 : l ≤ 1000000) :
    Calls Try.prog 69 #[.int .i64 n, .int .i64 l] w fun e w' => e = .returned (.bool (withinB n l)) ∧ w = w' := by
  by_cases a : -l ≤ n
  · go_enter Try.func69, Try.ntmps69
    go_wp2
    go_ret
    exact ⟨ret_bool (by simp [withinB, a]), rfl⟩
  · go_enter Try.func69, Try.ntmps69
    go_wp2
    go_ret
    exact ⟨ret_bool (by simp [withinB]; omega), rfl⟩

set_option maxHeartbeats 400000 in
theorem allWithin_any (s : Value) (xs : List Int) (l : Int) (w : World) (hs : IntsAt w s xs) (h0 : 0 ≤ l) (h1 : l ≤ 1000000) :
    Calls Try.prog 82 #[s, .int .i64 l] w fun e w' => e = .returned (.bool (xs.all (withinB · l))) ∧ w = w' := by
  obtain ⟨p, c, rfl, hm, hc⟩ := hs
  generalize hlen : xs.length = n at *
  have HL := Lib.hid hlen; clear hlen
  have HC := Lib.hid hc; clear hc
  go_enter Try.func82, Try.ntmps82
  go_wp2
  go_loop [9] (fun i => ∃ k : Nat, k ≤ n ∧ i = .int .i64 k ∧ (xs.take k).all (withinB · l) = true) (fun i => n - (intOf i).toNat)
  case atStart => exact ⟨0, by omega, rfl, by simp⟩
  case round =>
    obtain ⟨k, hk, rfl, hall⟩ := hrel
    have HA := Lib.hid hall; clear hall
    by_cases hlt : k < n
    · obtain ⟨x, hx⟩ := get_some (xs := xs) (k := k) (by rw [HL.out]; exact hlt)
      obtain ⟨b, off, rfl, hck⟩ := HC.out k x hx
      have HX := Lib.hid hx; clear hx
      go_wp2_with (go_at_call 103; refine (within_any x l _ h0 h1).mono ?_; rintro e w' ⟨rfl, rfl⟩)
      · have hw : withinB x l = false := nt (by assumption)
        go_ret
        exact ⟨ret_bool (all_false_of HX.out hw).symm, rfl⟩
      · have hw : withinB x l = true := nf (by assumption)
        go_round
        case rel => exact ⟨k + 1, by omega, by go_num, all_take_next HX.out HA.out hw⟩
        case measure => simp [intOf]; omega
    · go_wp2
      go_ret
      exact ⟨ret_bool (all_take_end (by rw [HL.out]; omega) HA.out).symm, rfl⟩

set_option maxHeartbeats 800000 in
theorem AffineValid_any (s : Value) (xs : List Int) (c : Int) (w : World) (hs : IntsAt w s xs) :
    Calls Try.prog 81 #[.agg #[s, .int .i64 c]] w fun e w' => e = .returned (.bool (affValidB xs c)) ∧ Ext w w' := by
  obtain ⟨p, cc, rfl, hm, hc⟩ := id hs
  clear hc
  have HS := Lib.hid hs; clear hs
  by_cases h4 : xs.length = 4
  · have h4' : ((xs.length : Int) == 4) = true := by simp [h4]
    have H4 := Lib.hid h4; clear h4
    cases ha : xs.all (withinB · 9) with
    | true =>
      have HA := Lib.hid ha; clear ha
      go_enter Try.func81, Try.ntmps81
      go_wp2_with (first
        | (go_at_call 82; refine (allWithin_any _ xs 9 _ (HS.out.ext ((Ext.refl w).alloc _)) (by omega) (by omega)).mono ?_; rw [HA.out]; rintro e w' ⟨rfl, rfl⟩)
        | (go_at_call 103; refine (within_any c 99 _ (by omega) (by omega)).mono ?_; rintro e w' ⟨rfl, rfl⟩))
      go_ret
      exact ⟨ret_bool (by simp [affValidB, HA.out, H4.out]), (Ext.refl w).alloc _⟩
    | false =>
      have HA := Lib.hid ha; clear ha
      go_enter Try.func81, Try.ntmps81
      go_wp2_with (go_at_call 82; refine (allWithin_any _ xs 9 _ (HS.out.ext ((Ext.refl w).alloc _)) (by omega) (by omega)).mono ?_; rw [HA.out]; rintro e w' ⟨rfl, rfl⟩)
      go_ret
      exact ⟨ret_bool (by simp [affValidB, HA.out]), (Ext.refl w).alloc _⟩
  · have h4' : ((xs.length : Int) == 4) = false := by simp; omega
    have H4 := Lib.hid h4; clear h4
    go_enter Try.func81, Try.ntmps81
    go_wp2
    go_ret
    exact ⟨ret_bool (by simp [affValidB, H4.out]), (Ext.refl w).alloc _⟩

set_option maxHeartbeats 800000 in
theorem specAffineValid_any (s : Value) (xs : List Int) (c : Int) (w : World) (hs : IntsAt w s xs) :
    Calls Try.prog 35 #[.agg #[s, .int .i64 c]] w fun e w' => e = .returned (.bool (affValidB xs c)) ∧ Ext w w' := by
  obtain ⟨p, cc, rfl, hm, hc⟩ := hs
  generalize hlen : xs.length = n at *
  have HL := Lib.hid hlen; clear hlen
  have HC := Lib.hid hc; clear hc
  go_enter Try.func35, Try.ntmps35
  go_wp2
  go_loop [3] (fun i => ∃ k : Nat, k ≤ n ∧ i = .int .i64 k ∧ (xs.take k).all (withinB · 9) = true) (fun i => n - (intOf i).toNat)
  case atStart => exact ⟨0, by omega, rfl, by simp⟩
  case round =>
    obtain ⟨k, hk, rfl, hall⟩ := hrel
    have HA := Lib.hid hall; clear hall
    by_cases hlt : k < n
    · obtain ⟨x, hx⟩ := get_some (xs := xs) (k := k) (by rw [HL.out]; exact hlt)
      obtain ⟨b, off, rfl, hck⟩ := HC.out k x hx
      have hbl := World.block_lt_of_cell? w _ hck
      have HX := Lib.hid hx; clear hx
      go_wp2_with (go_at_call 69; refine (l1Within_any x 9 _ (by omega) (by omega)).mono ?_; rintro e w' ⟨rfl, rfl⟩)
      · have hw : withinB x 9 = false := nt (by assumption)
        go_ret
        exact ⟨ret_bool (by simp [affValidB, all_false_of (p := (withinB · 9)) HX.out hw]), (Ext.refl w).alloc _⟩
      · have hw : withinB x 9 = true := nf (by assumption)
        go_round
        case rel => exact ⟨k + 1, by omega, by go_num, all_take_next HX.out HA.out hw⟩
        case measure => simp [intOf]; omega
    · have hal : xs.all (withinB · 9) = true := all_take_end (by rw [HL.out]; omega) HA.out
      have HAl := Lib.hid hal; clear hal
      by_cases h4 : n = 4
      · have h4' : ((n : Int) == 4) = true := by simp [h4]
        have H4 := Lib.hid h4; clear h4
        go_wp2_with (go_at_call 69; refine (l1Within_any c 99 _ (by omega) (by omega)).mono ?_; rintro e w' ⟨rfl, rfl⟩)
        go_ret
        exact ⟨ret_bool (by simp [affValidB, HAl.out, HL.out, H4.out]), (Ext.refl w).alloc _⟩
      · have h4' : ((n : Int) == 4) = false := by simp; omega
        have H4 := Lib.hid h4; clear h4
        go_wp2
        go_ret
        exact ⟨ret_bool (by simp [affValidB, HL.out, H4.out]), (Ext.refl w).alloc _⟩

/-- what szIntS leaves of 'left' -/
def szI (left : Int) (n : Nat) : Int := if left - n < 0 then -1 else left - n

set_option maxHeartbeats 400000 in
theorem szIntS_any (p : Option Addr) (n c : Nat) (left : Int) (w : World) (hn : n ≤ 9223372036854775807) (h0 : 0 ≤ left) (h1 : left ≤ 1048576) :
    Calls Try.prog 33 #[.slice p n c, .int .i64 left] w fun e w' => e = .returned (.int .i64 (szI left n)) ∧ w = w' := by
  by_cases h : left - n < 0
  all_goals
    go_enter Try.func33, Try.ntmps33
    go_wp2
    go_ret
    exact ⟨ret_int (by simp [szI]; omega), rfl⟩

set_option maxHeartbeats 400000 in
theorem szAffine_any (p : Option Addr) (n c : Nat) (k left : Int) (w : World) (hn : n ≤ 9223372036854775807) (h0 : 0 ≤ left) (h1 : left ≤ 1048576) :
    Calls Try.prog 12 #[.agg #[.slice p n c, .int .i64 k], .int .i64 left] w fun e w' => e = .returned (.int .i64 (szI left n)) ∧ Ext w w' := by
  have hb : -1 ≤ szI left n ∧ szI left n ≤ 1048576 := by unfold szI; split <;> omega
  have hneg : szI left n < 0 → szI left n = -1 := by unfold szI; split <;> omega
  have HB := Lib.hid hneg; clear hneg
  go_enter Try.func12, Try.ntmps12
  go_wp2_with (go_at_call 33; refine (szIntS_any p n c left _ hn h0 h1).mono ?_; rintro e w' ⟨rfl, rfl⟩)
  · have h : szI left n < 0 := by assumption
    go_ret
    exact ⟨ret_int (HB.out h).symm, (Ext.refl w).alloc _⟩
  · go_ret
    exact ⟨rfl, (Ext.refl w).alloc _⟩
end Go.Proofs.Ytccibfldadflkaa
