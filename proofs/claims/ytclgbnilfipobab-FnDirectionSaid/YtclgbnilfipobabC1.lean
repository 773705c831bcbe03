/- Distances: the level that carries one (program and model). No statement is proved here. -/
import Derived.Test.YtclgbnilfipobabA2
namespace Go.Proofs.Ytclgbnilfipobab
open Go.RowKit

theorem IntsAt.cl {w : World} {p : Option Addr} {n c : Nat} {xs : List Int} (h : IntsAt w (.slice p n c) xs) : n ≤ 9223372036854775807 ∧ ∀ i x, xs[i]? = some x → ∃ b off, p = some ⟨b, off, none⟩ ∧ w.cell? ⟨b, off + i, none⟩ = some (.int .i64 x) := by
  obtain ⟨p', c', e, hm, hc⟩ := h
  simp only [Value.slice.injEq] at e
  obtain ⟨rfl, rfl, rfl⟩ := e
  exact ⟨hm, hc⟩
/-- The index of the first number that is not 0, counted from k, or -1. -/
def carF : Int → List Int → Int
  | _, [] => -1
  | k, x :: r => if x = 0 then carF (k + 1) r else k
theorem drop_consC {α : Type} {l : List α} {i : Nat} {a : α} (h : l[i]? = some a) : l.drop i = a :: l.drop (i + 1) := by
  rw [List.drop_eq_getElem_cons (List.getElem?_eq_some_iff.1 h).1, (List.getElem?_eq_some_iff.1 h).2]
theorem carF_yes {xs : List Int} {k : Nat} {x : Int} (hx : xs[k]? = some x) (h : carF k (xs.drop k) = carF 0 xs) (h0 : x = 0) : carF ((k : Int) + 1) (xs.drop (k + 1)) = carF 0 xs := by
  rw [drop_consC hx] at h; simp only [carF] at h; rw [if_pos h0] at h; exact h
theorem carF_no {xs : List Int} {k : Nat} {x : Int} (hx : xs[k]? = some x) (h : carF k (xs.drop k) = carF 0 xs) (h0 : x ≠ 0) : (k : Int) = carF 0 xs := by
  rw [drop_consC hx] at h; simp only [carF] at h; rw [if_neg h0] at h; exact h
theorem carF_end {xs : List Int} {k : Nat} (hk : xs.length ≤ k) (h : carF k (xs.drop k) = carF 0 xs) : (-1 : Int) = carF 0 xs := by
  rw [List.drop_eq_nil_of_le hk] at h; exact h

set_option maxHeartbeats 1000000 in
theorem specCarryLevel_any (p : Option Addr) (n c : Nat) (xs : List Int) (w : World) (hn : xs.length = n) (hs : IntsAt w (.slice p n c) xs) :
    Calls Try.prog 6 #[.slice p n c] w fun e w' => e = .returned (.int .i64 (carF 0 xs)) ∧ Ext w w' := by
  obtain ⟨hm, hc⟩ := hs.cl
  have HN := Lib.hid hn; have HC := Lib.hid hc
  clear hn hc hs
  obtain ⟨z, hz⟩ : ∃ z, carF 0 xs = z := ⟨_, rfl⟩
  rw [hz]
  have HZ := Lib.hid hz; clear hz
  go_enter Try.func6, Try.ntmps6
  go_wp2
  go_loopw [3] (fun i wr => ∃ k : Nat, k ≤ n ∧ i = .int .i64 k ∧ carF k (xs.drop k) = carF 0 xs ∧ Ext w wr) (fun i _ => n - (intOf i).toNat)
  case atStart => exact ⟨0, by omega, rfl, rfl, Ext.refl w⟩
  case round =>
    obtain ⟨k, hk, rfl, hkz, hE⟩ := hrel
    have HKZ := Lib.hid hkz; have HE := Lib.hid hE
    clear hkz hE
    by_cases hlt : k < n
    · obtain ⟨x, hx⟩ := get_some (xs := xs) (k := k) (by rw [HN.out]; exact hlt)
      obtain ⟨b, off, rfl, hcell⟩ := HC.out k x hx
      have hcl := HE.out.keep hcell
      have HX := Lib.hid hx
      clear hx hcell
      by_cases h0 : x = 0
      · have hb : (x != 0) = false := by simpa using h0
        have HNX := Lib.hid (carF_yes HX.out HKZ.out h0)
        go_wp2
        go_roundw
        case rel => exact ⟨k + 1, by omega, by go_num, by have h := HNX.out; push_cast; exact h, HE.out⟩
        case measure => simp [intOf]; omega
      · have hb : (x != 0) = true := by simpa using h0
        have HNX := Lib.hid ((carF_no HX.out HKZ.out h0).trans HZ.out)
        go_wp2
        go_ret
        exact ⟨ret_int HNX.out, HE.out⟩
    · obtain rfl : k = n := by omega
      have HNX := Lib.hid ((carF_end (by rw [HN.out]; omega) HKZ.out).trans HZ.out)
      go_wp2
      go_ret
      exact ⟨ret_int HNX.out, HE.out⟩

theorem carry1_any (x : Int) (w : World) : Calls Try.prog 14 #[.int .i64 x] w fun e w' => e = .returned (.bool (x != 0)) ∧ w' = w := by
  go_enter Try.func14, Try.ntmps14
  go_wp2
  go_ret
  exact ⟨rfl, rfl⟩

set_option maxHeartbeats 1000000 in
theorem indexC_any (p : Option Addr) (n c : Nat) (xs : List Int) (w : World) (hn : xs.length = n) (hs : IntsAt w (.slice p n c) xs) :
    Calls Try.prog 13 #[.slice p n c, .func (.func 14) #[] #[]] w fun e w' => e = .returned (.int .i64 (carF 0 xs)) ∧ Ext w w' := by
  obtain ⟨hm, hc⟩ := hs.cl
  have HN := Lib.hid hn; have HC := Lib.hid hc
  clear hn hc hs
  obtain ⟨z, hz⟩ : ∃ z, carF 0 xs = z := ⟨_, rfl⟩
  rw [hz]
  have HZ := Lib.hid hz; clear hz
  go_enter Try.func13, Try.ntmps13
  go_wp2
  go_loopw [8] (fun i wr => ∃ k : Nat, k ≤ n ∧ i = .int .i64 k ∧ carF k (xs.drop k) = carF 0 xs ∧ Ext w wr) (fun i _ => n - (intOf i).toNat)
  case atStart => exact ⟨0, by omega, rfl, rfl, Ext.refl w⟩
  case round =>
    obtain ⟨k, hk, rfl, hkz, hE⟩ := hrel
    have HKZ := Lib.hid hkz; have HE := Lib.hid hE
    clear hkz hE
    by_cases hlt : k < n
    · obtain ⟨x, hx⟩ := get_some (xs := xs) (k := k) (by rw [HN.out]; exact hlt)
      obtain ⟨b, off, rfl, hcell⟩ := HC.out k x hx
      have hcl := HE.out.keep hcell
      have HX := Lib.hid hx
      clear hx hcell
      go_wp2_with (fail)
      refine (carry1_any x _).mono ?_
      rintro e w3 ⟨rfl, rfl⟩
      by_cases h0 : x = 0
      · have hb : (x != 0) = false := by simpa using h0
        have HNX := Lib.hid (carF_yes HX.out HKZ.out h0)
        go_wp2
        go_roundw
        case rel => exact ⟨k + 1, by omega, by go_num, by have h := HNX.out; push_cast; exact h, HE.out⟩
        case measure => simp [intOf]; omega
      · have hb : (x != 0) = true := by simpa using h0
        have HNX := Lib.hid ((carF_no HX.out HKZ.out h0).trans HZ.out)
        go_wp2
        go_ret
        exact ⟨ret_int HNX.out, HE.out⟩
    · obtain rfl : k = n := by omega
      have HNX := Lib.hid ((carF_end (by rw [HN.out]; omega) HKZ.out).trans HZ.out)
      go_wp2
      go_ret
      exact ⟨ret_int HNX.out, HE.out⟩

theorem CarryLevel_any (p : Option Addr) (n c : Nat) (xs : List Int) (w : World) (hn : xs.length = n) (hs : IntsAt w (.slice p n c) xs) :
    Calls Try.prog 8 #[.slice p n c] w fun e w' => e = .returned (.int .i64 (carF 0 xs)) ∧ Ext w w' := by
  go_enter Try.func8, Try.ntmps8
  go_wp2_with (fail)
  refine (indexC_any p n c xs _ hn hs).mono ?_
  rintro e w3 ⟨rfl, hE⟩
  obtain ⟨z, hz⟩ : ∃ z, carF 0 xs = z := ⟨_, rfl⟩
  rw [hz]
  have HZ := Lib.hid hz.symm; clear hz
  go_wp2
  go_ret
  exact ⟨ret_int HZ.out, hE⟩
end Go.Proofs.Ytclgbnilfipobab
