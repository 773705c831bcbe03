/- The texts N4 N5, joined. No statement is proved here. -/
import Derived.Test.YtccibfldadflkaaQS12
import Derived.Deep.RegionHeld3
/- Contracts of the laws' own helpers for nests: comparisons. -/
namespace Go.Proofs.Ytccibfldadflkaa
open Go.RowKit

/-- Two lists are the same. -/
def lEqB {α : Type} [DecidableEq α] (xs ys : List α) : Bool := decide (xs = ys)
theorem lEqB_self {α : Type} [DecidableEq α] (xs : List α) : lEqB xs xs = true := by simp [lEqB]
theorem lEqB_len {α : Type} [DecidableEq α] {xs ys : List α} (h : xs.length ≠ ys.length) : lEqB xs ys = false := by
  unfold lEqB; apply decide_eq_false; intro e; exact h (by rw [e])
theorem lEqB_ne {α : Type} [DecidableEq α] {xs ys : List α} {k : Nat} {x y : α} (hx : xs[k]? = some x) (hy : ys[k]? = some y) (h : x ≠ y) : lEqB xs ys = false := by
  unfold lEqB; apply decide_eq_false; intro e; rw [e, hy] at hx; exact h (Option.some.inj hx).symm
theorem ltake_eq_next {α : Type} {xs ys : List α} {k : Nat} {x y : α} (hx : xs[k]? = some x) (hy : ys[k]? = some y) (h : xs.take k = ys.take k) (e : x = y) : xs.take (k + 1) = ys.take (k + 1) := by
  rw [take_next hx, take_next hy, h, e]
theorem lEqB_all {α : Type} [DecidableEq α] {xs ys : List α} {k : Nat} (hx : xs.length ≤ k) (hy : ys.length ≤ k) (h : xs.take k = ys.take k) : lEqB xs ys = true := by
  rw [List.take_of_length_le hx, List.take_of_length_le hy] at h; simp [lEqB, h]

theorem affEq_iff {x y : Aff} : affEqB x.1 x.2 y.1 y.2 = true ↔ x = y := by
  obtain ⟨a, b⟩ := x; obtain ⟨c, d⟩ := y
  simp [affEqB, eqB]
theorem affEq_no {x y : Aff} (h : affEqB x.1 x.2 y.1 y.2 = false) : x ≠ y := by
  intro e; rw [affEq_iff.2 e] at h; cases h

set_option maxHeartbeats 2000000 in
theorem eqAffineS_any (p : Option Addr) (n c : Nat) (q : Option Addr) (n' d : Nat) (xs ys : List Aff) (w : World) (hn : xs.length = n) (hn' : ys.length = n') (hs : AffsAt w (.slice p n c) xs) (ht : AffsAt w (.slice q n' d) ys) :
    Calls Try.prog 73 #[.slice p n c, .slice q n' d] w fun e w' => e = .returned (.bool (lEqB xs ys)) ∧ Ext w w' := by
  have hm : n ≤ 9223372036854775807 := by obtain ⟨_, _, hv, hm, _⟩ := hs; rw [← hn]; exact hm
  have hm2 : n' ≤ 9223372036854775807 := by obtain ⟨_, _, hv, hm, _⟩ := ht; rw [← hn']; exact hm
  have HS := Lib.hid hs; have HT := Lib.hid ht; have HN := Lib.hid hn; have HN' := Lib.hid hn'; clear hs ht hn hn'
  by_cases hne : n' = n
  · subst hne
    go_enter Try.func73, Try.ntmps73
    go_wp2
    go_loopw [5] (fun i wr => ∃ k : Nat, k ≤ n' ∧ i = .int .i64 k ∧ xs.take k = ys.take k ∧ Ext w wr) (fun i _ => n' - (intOf i).toNat)
    case atStart => exact ⟨0, by omega, rfl, by simp, Ext.refl w⟩
    case round =>
      obtain ⟨k, hk, rfl, htk, hE⟩ := hrel
      have HK := Lib.hid htk; clear htk
      by_cases hlt : k < n'
      · obtain ⟨x, hx⟩ := get_some (xs := xs) (k := k) (by rw [HN.out]; exact hlt)
        obtain ⟨y, hy⟩ := get_some (xs := ys) (k := k) (by rw [HN'.out]; exact hlt)
        obtain ⟨b, off, q1, m1, rfl, a0, a1, hb, hr⟩ := (HS.out.ext hE).elem hx
        obtain ⟨b', off', q2, m2, rfl, b0, b1, hb', hr'⟩ := (HT.out.ext hE).elem hy
        have HX := Lib.hid hx; have HY := Lib.hid hy; have HR := Lib.hid hr; have HR' := Lib.hid hr'; clear hx hy hr hr'
        go_wp2_with (fail)
        go_region_held3 (fun W => W.cell? ⟨b, off + k * 2, none⟩ = some (.slice q1 x.1.length m1) ∧ W.cell? ⟨b, off + k * 2 + 1, none⟩ = some (.int .i64 x.2) ∧ W.cell? ⟨b', off' + k * 2, none⟩ = some (.slice q2 y.1.length m2) ∧ W.cell? ⟨b', off' + k * 2 + 1, none⟩ = some (.int .i64 y.2))
          (first | exact ⟨a0, a1, b0, b1⟩ | exact ⟨g3.keep a0, g3.keep a1, g3.keep b0, g3.keep b1⟩ | fail)
          (first | (go_at_call 18; (with_reducible refine (eqAffine_any _ _ x.1 y.1 x.2 y.2 _ (HR.out.ext (Ext.refl wr).drew) (HR'.out.ext (Ext.refl wr).drew)).mono ?_); rintro e w3 ⟨rfl, hE3⟩; have g3 := (Ext.refl wr).drew.trans hE3) | fail)
        cases hq : affEqB x.1 x.2 y.1 y.2 with
        | true =>
          have e := affEq_iff.1 hq
          go_wp2
          go_roundw
          case rel => exact ⟨k + 1, by omega, by go_num, ltake_eq_next HX.out HY.out HK.out e, hE.trans g3⟩
          case measure => simp [intOf]; omega
        | false =>
          have e := affEq_no hq
          have HE := Lib.hid e; clear e
          go_wp2
          go_ret
          exact ⟨ret_bool (lEqB_ne HX.out HY.out HE.out).symm, hE.trans g3⟩
      · go_wp2
        go_ret
        exact ⟨ret_bool (lEqB_all (by rw [HN.out]; omega) (by rw [HN'.out]; omega) HK.out).symm, hE⟩
  · have hb : ((n : Int) != n') = true := by simp; omega
    have HNE := Lib.hid hne; clear hne
    go_enter Try.func73, Try.ntmps73
    go_wp2
    go_ret
    exact ⟨ret_bool (lEqB_len (by rw [HN.out, HN'.out]; exact fun e => HNE.out e.symm)).symm, Ext.refl w⟩


end Go.Proofs.Ytccibfldadflkaa

/- Contracts: sides of loops, validity of nests. -/
namespace Go.Proofs.Ytccibfldadflkaa
open Go.RowKit

/-- One bound of a side of a loop within d outer ones. -/
def boundB (d : Int) (a : Aff) : Bool := affValidB a.1 a.2 && decide (depR a.1 a.2 ≤ d)
def sideB (zs : List Aff) (d : Int) : Bool := decide (1 ≤ zs.length ∧ zs.length ≤ 2) && zs.all (boundB d)
def loopB (l : Lp) (d : Int) : Bool := sideB l.1 d && sideB l.2 d

theorem depR_four {a b c d k : Int} (h : affValidB [a, b, c, d] k = true) : depR [a, b, c, d] k = dep4 a b c d := by unfold depR; rw [if_pos h]; rfl

set_option maxHeartbeats 2000000 in
theorem l2Side_any (p : Option Addr) (n c : Nat) (zs : List Aff) (dd : Int) (w : World) (hn : zs.length = n) (hs : AffsAt w (.slice p n c) zs) :
    Calls Try.prog 96 #[.slice p n c, .int .i64 dd] w fun e w' => e = .returned (.bool (sideB zs dd)) ∧ Ext w w' := by
  have hm : n ≤ 9223372036854775807 := by obtain ⟨_, _, hv, hm, _⟩ := hs; rw [← hn]; exact hm
  have HS := Lib.hid hs; have HN := Lib.hid hn; clear hs hn
  go_enter Try.func96, Try.ntmps96
  go_wp2
  go_loopw [5] (fun i wr => ∃ k : Nat, k ≤ n ∧ i = .int .i64 k ∧ (zs.take k).all (boundB dd) = true ∧ Ext w wr) (fun i _ => n - (intOf i).toNat)
  case atStart => exact ⟨0, by omega, rfl, by simp, Ext.refl w⟩
  case round =>
    obtain ⟨k, hk, rfl, hall, hE⟩ := hrel
    have HA := Lib.hid hall; clear hall
    by_cases hlt : k < n
    · obtain ⟨x, hx⟩ := get_some (xs := zs) (k := k) (by rw [HN.out]; exact hlt)
      obtain ⟨b, off, q, m, rfl, c0, c1, hb, hr⟩ := (HS.out.ext hE).elem hx
      have HX := Lib.hid hx; have HR := Lib.hid hr; clear hx hr
      cases hv : affValidB x.1 x.2 with
      | false =>
        have HV := Lib.hid hv; clear hv
        go_wp2_with (fail)
        refine (specAffineValid_any _ x.1 x.2 _ HR.out).mono ?_
        rw [HV.out]
        rintro e w1 ⟨rfl, hE1⟩
        go_wp2
        go_ret
        exact ⟨ret_bool (by simp [sideB, all_false_of (p := boundB dd) HX.out (by simp [boundB, HV.out])]), hE.trans hE1⟩
      | true =>
        obtain ⟨x1, x2⟩ := x
        dsimp only at *
        obtain ⟨a, b', c', d, rfl, -⟩ := valid_four hv
        have HV := Lib.hid hv; clear hv
        go_wp2_with (fail)
        refine (specAffineValid_any _ [a, b', c', d] x2 _ HR.out).mono ?_
        rw [HV.out]
        rintro e w1 ⟨rfl, hE1⟩
        replace c0 := hE1.keep c0
        replace c1 := hE1.keep c1
        go_wp2_with (fail)
        refine (l1Depth_four _ a b' c' d x2 _ (HR.out.ext hE1)).mono ?_
        rintro e w2 ⟨rfl, hE2⟩
        have hdep : Hid (depR [a, b', c', d] x2 = dep4 a b' c' d) := depR_four HV.out
        clear c0 c1
        generalize dep4 a b' c' d = D at *
        by_cases hd : D ≤ dd
        · have hdd : decide (dd < D) = false := by simp; omega
          go_wp2
          go_roundw
          case rel => exact ⟨k + 1, by omega, by go_num, all_take_next HX.out HA.out (by simp [boundB, HV.out, hdep.out, hd]), (hE.trans hE1).trans hE2⟩
          case measure => simp [intOf]; omega
        · have hdd : decide (dd < D) = true := by simp; omega
          go_wp2
          go_ret
          refine ⟨ret_bool ?_, (hE.trans hE1).trans hE2⟩
          have h0 : boundB dd ([a, b', c', d], x2) = false := by simp only [boundB, HV.out, hdep.out, Bool.true_and]; simp; omega
          simp [sideB, all_false_of (p := boundB dd) HX.out h0]
    · have hal : zs.all (boundB dd) = true := all_take_end (by rw [HN.out]; omega) HA.out
      have HAl := Lib.hid hal; clear hal
      by_cases h1 : 1 ≤ n
      · have hb1 : decide ((1 : Int) ≤ n) = true := by simp; omega
        go_wp2
        go_ret
        refine ⟨ret_bool ?_, hE⟩
        simp only [sideB, HAl.out, HN.out, Bool.and_true]
        by_cases h2 : n ≤ 2
        · simp [h1, h2]; try omega
        · simp [h1, h2]; try omega
      · have hb1 : decide ((1 : Int) ≤ n) = false := by simp; omega
        go_wp2
        go_ret
        refine ⟨ret_bool ?_, hE⟩
        simp only [sideB, HAl.out, HN.out, Bool.and_true]
        simp [h1]
end Go.Proofs.Ytccibfldadflkaa
