/- The texts N5, joined. No statement is proved here. -/
import Derived.Test.YtccibfldadflkaaQT36
/- Contracts: sides of loops, validity of nests. -/
namespace Go.Proofs.Ytccibfldadflkaa
open Go.RowKit

/-- One bound of a side of a loop within d outer ones. -/
def boundB (d : Int) (a : Aff) : Bool := affValidB a.1 a.2 && decide (depR a.1 a.2 ≤ d)
def sideB (zs : List Aff) (d : Int) : Bool := decide (1 ≤ zs.length ∧ zs.length ≤ 2) && zs.all (boundB d)
def loopB (l : Lp) (d : Int) : Bool := sideB l.1 d && sideB l.2 d

theorem depR_four {a b c d k : Int} (h : affValidB [a, b, c, d] k = true) : depR [a, b, c, d] k = dep4 a b c d := by unfold depR; rw [if_pos h]; rfl

set_option maxHeartbeats 2000000 in
theorem l2Side_any (p : Option Addr) (n c : Nat) (zs : List Aff) (dd : Int) (w : World) (hn : zs.length = n) (hs : AffsAt w (.slice p n c) zs) :
    Calls Try.prog 96 #[.slice p n c, .int .i64 dd] w fun e w' => e = .returned (.bool (sideB zs dd)) ∧ Ext w w' := by
  have hm : n ≤ 9223372036854775807 := by obtain ⟨_, _, hv, hm, _⟩ := hs; rw [← hn]; exact hm
  have HS := Lib.hid hs; have HN := Lib.hid hn; clear hs hn
  go_enter Try.func96, Try.ntmps96
  go_wp2
  go_loopw [5] (fun i wr => ∃ k : Nat, k ≤ n ∧ i = .int .i64 k ∧ (zs.take k).all (boundB dd) = true ∧ Ext w wr) (fun i _ => n - (intOf i).toNat)
  case atStart => exact ⟨0, by omega, rfl, by simp, Ext.refl w⟩
  case round =>
    obtain ⟨k, hk, rfl, hall, hE⟩ := hrel
    have HA := Lib.hid hall; clear hall
    by_cases hlt : k < n
    · obtain ⟨x, hx⟩ := get_some (xs := zs) (k := k) (by rw [HN.out]; exact hlt)
      obtain ⟨b, off, q, m, rfl, c0, c1, hb, hr⟩ := (HS.out.ext hE).elem hx
      have HX := Lib.hid hx; have HR := Lib.hid hr; clear hx hr
      cases hv : affValidB x.1 x.2 with
      | false =>
        have HV := Lib.hid hv; clear hv
        go_wp2_with (fail)
        refine (specAffineValid_any _ x.1 x.2 _ HR.out).mono ?_
        rw [HV.out]
        rintro e w1 ⟨rfl, hE1⟩
        go_wp2
        go_ret
        exact ⟨ret_bool (by simp [sideB, all_false_of (p := boundB dd) HX.out (by simp [boundB, HV.out])]), hE.trans hE1⟩
      | true =>
        obtain ⟨x1, x2⟩ := x
        dsimp only at *
        obtain ⟨a, b', c', d, rfl, -⟩ := valid_four hv
        have HV := Lib.hid hv; clear hv
        go_wp2_with (fail)
        refine (specAffineValid_any _ [a, b', c', d] x2 _ HR.out).mono ?_
        rw [HV.out]
        rintro e w1 ⟨rfl, hE1⟩
        replace c0 := hE1.keep c0
        replace c1 := hE1.keep c1
        go_wp2_with (fail)
        refine (l1Depth_four _ a b' c' d x2 _ (HR.out.ext hE1)).mono ?_
        rintro e w2 ⟨rfl, hE2⟩
        have hdep : Hid (depR [a, b', c', d] x2 = dep4 a b' c' d) := depR_four HV.out
        clear c0 c1
        generalize dep4 a b' c' d = D at *
        by_cases hd : D ≤ dd
        · have hdd : decide (dd < D) = false := by simp; omega
          go_wp2
          go_roundw
          case rel => exact ⟨k + 1, by omega, by go_num, all_take_next HX.out HA.out (by simp [boundB, HV.out, hdep.out, hd]), (hE.trans hE1).trans hE2⟩
          case measure => simp [intOf]; omega
        · have hdd : decide (dd < D) = true := by simp; omega
          go_wp2
          go_ret
          refine ⟨ret_bool ?_, (hE.trans hE1).trans hE2⟩
          have h0 : boundB dd ([a, b', c', d], x2) = false := by simp only [boundB, HV.out, hdep.out, Bool.true_and]; simp; omega
          simp [sideB, all_false_of (p := boundB dd) HX.out h0]
    · have hal : zs.all (boundB dd) = true := all_take_end (by rw [HN.out]; omega) HA.out
      have HAl := Lib.hid hal; clear hal
      by_cases h1 : 1 ≤ n
      · have hb1 : decide ((1 : Int) ≤ n) = true := by simp; omega
        go_wp2
        go_ret
        refine ⟨ret_bool ?_, hE⟩
        simp only [sideB, HAl.out, HN.out, Bool.and_true]
        by_cases h2 : n ≤ 2
        · simp [h1, h2]; try omega
        · simp [h1, h2]; try omega
      · have hb1 : decide ((1 : Int) ≤ n) = false := by simp; omega
        go_wp2
        go_ret
        refine ⟨ret_bool ?_, hE⟩
        simp only [sideB, HAl.out, HN.out, Bool.and_true]
        simp [h1]
end Go.Proofs.Ytccibfldadflkaa
