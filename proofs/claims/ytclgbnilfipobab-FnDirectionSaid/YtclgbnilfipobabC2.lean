/- Distances: the signs of one (program and model). No statement is proved here. -/
import Derived.Test.YtclgbnilfipobabC1
import Derived.Test.YtclgbnilfipobabT3
import Derived.Test.YtclgbnilfipobabT4
namespace Go.Proofs.Ytclgbnilfipobab
open Go.RowKit

def sgD (n : Int) : UInt8 := if n < 0 then 62 else if 0 < n then 60 else 61
def dirT (xs : List Int) : List UInt8 := xs.map sgD
theorem dirT_next {xs : List Int} {k : Nat} {x : Int} (h : xs[k]? = some x) : dirT (xs.take (k + 1)) = dirT (xs.take k) ++ [sgD x] := by
  rw [take_next h]; simp [dirT]
/-- What Direction answers. -/
def dirL (xs : List Int) : List UInt8 := if xs.length ≤ 4 then dirT xs else []

set_option maxRecDepth 100000 in
set_option maxHeartbeats 1000000 in
theorem specDirection_any (p : Option Addr) (n c : Nat) (xs : List Int) (w : World) (hn : xs.length = n) (hs : IntsAt w (.slice p n c) xs) :
    Calls Try.prog 10 #[.slice p n c] w fun e w' => e = .returned (.string ⟨(dirL xs).toArray⟩) ∧ Ext w w' := by
  obtain ⟨hm, hc⟩ := hs.cl
  have HN := Lib.hid hn; have HC := Lib.hid hc
  clear hn hc hs
  by_cases h4 : n ≤ 4
  · have HD : Hid (dirL xs = dirT xs) := Lib.hid (by unfold dirL; rw [if_pos (by rw [HN.out]; exact h4)])
    rw [HD.out]
    have hn4 : decide ((n : Int) ≤ 4) = true := by simp; omega
    go_enter Try.func10, Try.ntmps10
    go_wp2
    go_loopw [3, 4] (fun o i wr => ∃ j : Nat, j ≤ n ∧ i = .int .i64 j ∧ o = .string ⟨(dirT (xs.take j)).toArray⟩ ∧ Ext w wr) (fun _ i _ => n - (intOf i).toNat)
    case atStart => exact ⟨0, by omega, rfl, rfl, Ext.refl _⟩
    case round =>
      obtain ⟨j, hj, rfl, rfl, hE⟩ := hrel
      have HE := Lib.hid hE
      clear hE
      by_cases hlt : j < n
      · obtain ⟨x, hx⟩ := get_some (xs := xs) (k := j) (by rw [HN.out]; exact hlt)
        obtain ⟨b, off, rfl, hcell⟩ := HC.out j x hx
        have hcl := HE.out.keep hcell
        have HX := Lib.hid (dirT_next hx)
        have hlt2 : (dirT (xs.take j)).length = j := by unfold dirT; rw [List.length_map, List.length_take, HN.out]; omega
        obtain ⟨R, hR⟩ : ∃ R, dirT (xs.take j) = R := ⟨_, rfl⟩
        rw [hR] at hlt2 HX ⊢
        have hq1 : ¬ 9223372036854775807 < R.length + 1 := by omega
        have hq2 : ¬ 9223372036854775806 < R.length := by omega
        clear hx hcell hR
        by_cases hp : 0 < x
        · have HS : Hid (sgD x = 60) := Lib.hid (by unfold sgD; rw [if_neg (by omega), if_pos hp])
          have hb : decide (0 < x) = true := by simpa using hp
          go_wp2
          go_roundw
          case rel => exact ⟨j + 1, by omega, by go_num, by rw [HX.out, HS.out]; exact congrArg Value.string (str_app R [60]), HE.out⟩
          case measure => simp [intOf]; omega
        · have hb : decide (0 < x) = false := by simpa using hp
          by_cases hq : x < 0
          · have HS : Hid (sgD x = 62) := Lib.hid (by unfold sgD; rw [if_pos hq])
            have hb2 : decide (x < 0) = true := by simpa using hq
            go_wp2
            go_roundw
            case rel => exact ⟨j + 1, by omega, by go_num, by rw [HX.out, HS.out]; exact congrArg Value.string (str_app R [62]), HE.out⟩
            case measure => simp [intOf]; omega
          · have HS : Hid (sgD x = 61) := Lib.hid (by unfold sgD; rw [if_neg hq, if_neg hp])
            have hb2 : decide (x < 0) = false := by simpa using hq
            go_wp2
            go_roundw
            case rel => exact ⟨j + 1, by omega, by go_num, by rw [HX.out, HS.out]; exact congrArg Value.string (str_app R [61]), HE.out⟩
            case measure => simp [intOf]; omega
      · obtain rfl : j = n := by omega
        have HR : Hid (dirT (xs.take j) = dirT xs) := Lib.hid (by rw [List.take_of_length_le (by rw [HN.out]; omega)])
        rw [HR.out]
        go_wp2
        go_ret
        exact ⟨rfl, HE.out⟩
  · have HD : Hid (dirL xs = []) := Lib.hid (by unfold dirL; rw [if_neg (by rw [HN.out]; exact h4)])
    rw [HD.out]
    have hn4 : decide ((n : Int) ≤ 4) = false := by simp; omega
    have h0 : (0 : Int) < (n : Int) := by omega
    go_enter Try.func10, Try.ntmps10
    go_wp2
    go_loopw [3, 4] (fun o i wr => i = .int .i64 0 ∧ o = .string ⟨#[]⟩ ∧ wr = w) (fun _ i _ => 0)
    case atStart => exact ⟨rfl, rfl, rfl⟩
    case round =>
      obtain ⟨rfl, rfl, rfl⟩ := hrel
      go_wp2
      go_ret
      exact ⟨rfl, Ext.refl _⟩

theorem isNaN_any (x : Int) (w : World) : Calls Try.prog 20 #[.int .i64 x] w fun e w' => e = .returned (.bool false) ∧ w' = w := by
  go_enter Try.func20, Try.ntmps20
  have h : (x != x) = false := by simp
  go_wp2
  go_ret
  exact ⟨rfl, rfl⟩
/-- The sign of a number, as cmp.Compare has it against 0. -/
def cmp0 (x : Int) : Int := if x < 0 then -1 else if 0 < x then 1 else 0
theorem compare0_any (x : Int) (w : World) : Calls Try.prog 16 #[.int .i64 x, .int .i64 0] w fun e w' => e = .returned (.int .i64 (cmp0 x)) ∧ w' = w := by
  go_enter Try.func16, Try.ntmps16
  go_wp2_with (fail)
  refine (isNaN_any x _).mono ?_
  rintro e w1 ⟨rfl, rfl⟩
  go_wp2_with (fail)
  refine (isNaN_any 0 _).mono ?_
  rintro e w2 ⟨rfl, rfl⟩
  by_cases hq : x < 0
  · have hb : decide (x < 0) = true := by simpa using hq
    have HS : Hid (cmp0 x = -1) := Lib.hid (by unfold cmp0; rw [if_pos hq])
    go_wp2
    go_ret
    exact ⟨ret_int HS.out.symm, rfl⟩
  · have hb : decide (x < 0) = false := by simpa using hq
    by_cases hp : 0 < x
    · have hb2 : decide (0 < x) = true := by simpa using hp
      have HS : Hid (cmp0 x = 1) := Lib.hid (by unfold cmp0; rw [if_neg hq, if_pos hp])
      go_wp2
      go_ret
      exact ⟨ret_int HS.out.symm, rfl⟩
    · have hb2 : decide (0 < x) = false := by simpa using hp
      have HS : Hid (cmp0 x = 0) := Lib.hid (by unfold cmp0; rw [if_neg hq, if_neg hp])
      go_wp2
      go_ret
      exact ⟨ret_int HS.out.symm, rfl⟩
theorem sgD_cases (x : Int) : (cmp0 x = -1 ∧ sgD x = 62) ∨ (cmp0 x = 0 ∧ sgD x = 61) ∨ (cmp0 x = 1 ∧ sgD x = 60) := by
  unfold cmp0 sgD
  by_cases hq : x < 0
  · simp [hq]
  · by_cases hp : 0 < x
    · simp [hq, hp]
    · simp [hq, hp]

set_option maxRecDepth 100000 in
set_option maxHeartbeats 2000000 in
theorem Direction_any (p : Option Addr) (n c : Nat) (xs : List Int) (w : World) (hn : xs.length = n) (hs : IntsAt w (.slice p n c) xs) :
    Calls Try.prog 11 #[.slice p n c] w fun e w' => e = .returned (.string ⟨(dirL xs).toArray⟩) ∧ Ext w w' := by
  obtain ⟨hm, hc⟩ := hs.cl
  have HN := Lib.hid hn; have HC := Lib.hid hc
  clear hn hc hs
  by_cases h4 : n ≤ 4
  · have HD : Hid (dirL xs = dirT xs) := Lib.hid (by unfold dirL; rw [if_pos (by rw [HN.out]; exact h4)])
    rw [HD.out]
    have hn4 : decide ((4 : Int) < (n : Int)) = false := by simp; omega
    go_enter Try.func11, Try.ntmps11
    go_wp2
    obtain ⟨W0, hW0⟩ : ∃ W0, w.alloc (.cells #[.pointer none, .slice none 0 0] 35) = W0 := ⟨_, rfl⟩
    have E0 : Hid (Ext w W0) := Lib.hid (by rw [← hW0]; exact (Ext.refl w).alloc _)
    have D0 : Hid (Bd w.heap.size w.heap.size [] W0) := Lib.hid (by
      rw [← hW0]
      exact Lib.fresh_isBuilder 35 5 w)
    rw [hW0]
    have HZ : Hid (w.heap.size < W0.heap.size) := Lib.hid D0.out.lt.2
    clear hW0
    go_loopw [11] (fun i wr => ∃ j : Nat, j ≤ n ∧ i = .int .i64 j ∧ Bd w.heap.size w.heap.size (dirT (xs.take j)) wr ∧ Ext w wr) (fun i _ => n - (intOf i).toNat)
    case atStart => exact ⟨0, by omega, rfl, D0.out, E0.out⟩
    case round =>
      obtain ⟨j, hj, rfl, hB, hE⟩ := hrel
      have HE := Lib.hid hE; have HB := Lib.hid hB
      clear hE hB
      by_cases hlt : j < n
      · obtain ⟨x, hx⟩ := get_some (xs := xs) (k := j) (by rw [HN.out]; exact hlt)
        obtain ⟨b, off, rfl, hcell⟩ := HC.out j x hx
        have hcl := HE.out.keep hcell
        have HX := Lib.hid (dirT_next hx)
        have hlt2 : (dirT (xs.take j)).length = j := by unfold dirT; rw [List.length_map, List.length_take, HN.out]; omega
        have hl := HB.out.lt.2
        clear hx hcell
        go_wp2_with (fail)
        refine (compare0_any x _).mono ?_
        rintro e w1 ⟨rfl, rfl⟩
        rcases sgD_cases x with ⟨h1, h2⟩ | ⟨h1, h2⟩ | ⟨h1, h2⟩
        · rw [h1]
          have HS := Lib.hid h2
          clear h1 h2
          go_wp2_with (fail)
          refine (wByte _ _ _ 62 62 _ (by decide) HB.out (by omega)).mono ?_
          rintro e w2 ⟨rfl, hB2, hE2⟩
          have HB2 := Lib.hid hB2; have HE2 : Hid (Ext w w2) := Lib.hid (Below.trans HE.out hE2)
          clear hB2 hE2
          go_wp2
          go_roundw
          case rel => exact ⟨j + 1, by omega, by go_num, by rw [HX.out, HS.out]; exact HB2.out, HE2.out⟩
          case measure => simp [intOf]; omega
        · rw [h1]
          have HS := Lib.hid h2
          clear h1 h2
          go_wp2_with (fail)
          refine (wByte _ _ _ 61 61 _ (by decide) HB.out (by omega)).mono ?_
          rintro e w2 ⟨rfl, hB2, hE2⟩
          have HB2 := Lib.hid hB2; have HE2 : Hid (Ext w w2) := Lib.hid (Below.trans HE.out hE2)
          clear hB2 hE2
          go_wp2
          go_roundw
          case rel => exact ⟨j + 1, by omega, by go_num, by rw [HX.out, HS.out]; exact HB2.out, HE2.out⟩
          case measure => simp [intOf]; omega
        · rw [h1]
          have HS := Lib.hid h2
          clear h1 h2
          go_wp2_with (fail)
          refine (wByte _ _ _ 60 60 _ (by decide) HB.out (by omega)).mono ?_
          rintro e w2 ⟨rfl, hB2, hE2⟩
          have HB2 := Lib.hid hB2; have HE2 : Hid (Ext w w2) := Lib.hid (Below.trans HE.out hE2)
          clear hB2 hE2
          go_wp2
          go_roundw
          case rel => exact ⟨j + 1, by omega, by go_num, by rw [HX.out, HS.out]; exact HB2.out, HE2.out⟩
          case measure => simp [intOf]; omega
      · obtain rfl : j = n := by omega
        have HR : Hid (Bd w.heap.size w.heap.size (dirT xs) wr) := Lib.hid (by have h := HB.out; rw [List.take_of_length_le (by rw [HN.out]; omega)] at h; exact h)
        have hlx : (dirT xs).length ≤ 4 := by unfold dirT; rw [List.length_map, HN.out]; exact h4
        go_wp2_with (fail)
        refine (Try.Builder_String_any _ _ (dirT xs) _ HR.out (by have := HE.out.size_le; omega)).mono ?_
        rintro e w2 ⟨rfl, hb⟩
        have E2 : Hid (Ext w w2) := Lib.hid (Below.trans HE.out (Below.mono hb (by have := HE.out.size_le; omega)))
        clear hb
        go_wp2
        go_ret
        exact ⟨rfl, E2.out⟩
  · have HD : Hid (dirL xs = []) := Lib.hid (by unfold dirL; rw [if_neg (by rw [HN.out]; exact h4)])
    rw [HD.out]
    have hn4 : decide ((4 : Int) < (n : Int)) = true := by simp; omega
    go_enter Try.func11, Try.ntmps11
    go_wp2
    go_ret
    exact ⟨rfl, Ext.refl _⟩
end Go.Proofs.Ytclgbnilfipobab
