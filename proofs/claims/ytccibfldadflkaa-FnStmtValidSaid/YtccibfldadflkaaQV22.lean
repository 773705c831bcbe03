/- The texts S12, joined. No statement is proved here. -/
import Derived.Test.YtccibfldadflkaaQV44
import Derived.Test.YtccibfldadflkaaQV48
/- The program's comparison of a node with a bare one. No statement is proved here. -/
namespace Go.Proofs.Ytccibfldadflkaa
open Go.RowKit

theorem AffsAt.zero (w : World) : AffsAt w (.slice none 0 0) [] := ⟨none, 0, rfl, by simp, fun i x h => by simp at h⟩
theorem IntsAt.zero (w : World) : IntsAt w (.slice none 0 0) [] := ⟨none, 0, rfl, by simp, fun i x h => by simp at h⟩
theorem lEqB_nil {xs : List Aff} : lEqB xs [] = decide (xs.length = 0) := by
  cases xs with
  | nil => rfl
  | cons x l => simp [lEqB]
theorem affEq_none (xs : List Int) (k : Int) : affEqB xs k [] 0 = noneB (xs, k) := by
  cases xs with
  | nil => simp [affEqB, noneB, eqB]
  | cons x l => simp [affEqB, noneB, eqB]

set_option maxHeartbeats 800000 in
theorem accSameZ_any (arr : ByteArray) (s : Value) (subs : List Aff) (w : World) (hs : AffsAt w s subs) :
    Calls Try.prog 122 #[.agg #[.string arr, s], .agg #[.string ⟨#[]⟩, .slice none 0 0]] w fun e w' => e = .returned (.bool (emptyB arr subs)) ∧ Ext w w' := by
  obtain ⟨p, c, rfl, hm⟩ := hs.form
  have HS := Lib.hid hs; clear hs
  by_cases ha : arr.toList = []
  · have HR : Hid (emptyB arr subs = lEqB subs []) := Lib.hid (by simp only [emptyB]; rw [lEqB_nil, decide_eq_true ha]; rfl)
    go_enter Try.func122, Try.ntmps122
    go_wp2_with (fail)
    refine (eqFuncA_any _ _ _ _ _ _ subs [] _ rfl rfl (HS.out.ext (((Ext.refl w).alloc _).alloc _)) (AffsAt.zero _)).mono ?_
    rintro e w1 ⟨rfl, hE⟩
    have E1 := Lib.hid ((((Ext.refl w).alloc _).alloc _).trans hE); clear hE
    go_wp2
    go_ret
    exact ⟨ret_bool HR.out.symm, E1.out⟩
  · have HR : Hid (emptyB arr subs = false) := Lib.hid (by simp only [emptyB]; rw [decide_eq_false ha]; rfl)
    have hb : arr.toList.isEmpty = false := by simpa using ha
    go_enter Try.func122, Try.ntmps122
    go_wp2
    go_ret
    exact ⟨ret_bool HR.out.symm, ((Ext.refl w).alloc _).alloc _⟩

def bareB (num : Int) (ix : Aff) (arr : ByteArray) (subs : List Aff) (n : Nat) : Bool := decide (num = 0) && (noneB ix && (emptyB arr subs && decide (n = 0)))

set_option maxRecDepth 100000 in
set_option maxHeartbeats 1600000 in
theorem sameZ_any (kind num k : Int) (u s v : Value) (xs : List Int) (arr : ByteArray) (subs : List Aff) (n : Nat) (w : World) (hu : IntsAt w u xs) (hs : AffsAt w s subs) (hv : ∃ p c, v = .slice p n c) (hn : n ≤ 9223372036854775807) :
    Calls Try.prog 117 #[.agg #[.int .i64 kind, .int .i64 num, u, .int .i64 k, .string arr, s, v], .agg #[.int .i64 kind, .int .i64 0, .slice none 0 0, .int .i64 0, .string ⟨#[]⟩, .slice none 0 0, .slice none 0 0]] w
      fun e w' => e = .returned (.bool (bareB num (xs, k) arr subs n)) ∧ Ext w w' := by
  obtain ⟨pu, cu, rfl, hmu, -⟩ := id hu
  obtain ⟨ps, cs, rfl, hms⟩ := hs.form
  obtain ⟨pv, cv, rfl⟩ := hv
  have HU := Lib.hid hu; have HS := Lib.hid hs; clear hu hs
  by_cases h1 : num = 0
  · subst h1
    obtain ⟨q, hq⟩ : ∃ q, noneB (xs, k) = q := ⟨_, rfl⟩
    have HQ := Lib.hid hq; clear hq
    go_enter Try.func117, Try.ntmps117
    go_wp2_with (fail)
    refine (AffineSame_any _ _ xs [] k 0 _ (HU.out.ext (((Ext.refl w).alloc _).alloc _)) (IntsAt.zero _)).mono ?_
    rw [affEq_none, HQ.out]
    rintro e W1 ⟨rfl, hE⟩
    have B1 := Lib.hid (hE.blk (g := w.heap.size) (blk_old (blk_at rfl)))
    have B2 := Lib.hid (hE.blk (g := w.heap.size + 1) (blk_at (by simp)))
    have E1 := Lib.hid ((((Ext.refl w).alloc _).alloc _).trans hE); clear hE
    obtain ⟨-, -, -, -, x4, x5, x6⟩ := blk7 B1.out
    obtain ⟨-, -, -, -, y4, y5, y6⟩ := blk7 B2.out
    cases q with
    | false =>
      have HR : Hid (bareB 0 (xs, k) arr subs n = false) := Lib.hid (by simp only [bareB, HQ.out]; simp)
      go_wp2
      go_ret
      exact ⟨ret_bool HR.out.symm, E1.out⟩
    | true =>
      obtain ⟨r, hr⟩ : ∃ r, emptyB arr subs = r := ⟨_, rfl⟩
      have HRR := Lib.hid hr; clear hr
      go_wp2_with (fail)
      refine (accSameZ_any arr _ subs _ (HS.out.ext E1.out)).mono ?_
      rw [HRR.out]
      rintro e W2 ⟨rfl, hE⟩
      have B3 := Lib.hid (hE.blk B1.out); have B4 := Lib.hid (hE.blk B2.out)
      have E2 := Lib.hid (E1.out.trans hE); clear hE x4 x5 x6 y4 y5 y6
      obtain ⟨-, -, -, -, x4, x5, x6⟩ := blk7 B3.out
      obtain ⟨-, -, -, -, y4, y5, y6⟩ := blk7 B4.out
      cases r with
      | false =>
        have HR : Hid (bareB 0 (xs, k) arr subs n = false) := Lib.hid (by simp only [bareB, HQ.out, HRR.out]; simp)
        go_wp2
        go_ret
        exact ⟨ret_bool HR.out.symm, E2.out⟩
      | true =>
        by_cases h0 : n = 0
        · subst h0
          have HR : Hid (bareB 0 (xs, k) arr subs 0 = true) := Lib.hid (by simp only [bareB, HQ.out, HRR.out]; simp)
          go_wp2
          go_ret
          exact ⟨ret_bool HR.out.symm, E2.out⟩
        · have hb : ((n : Int) == 0) = false := beq_eq_false_iff_ne.2 (by omega)
          have HR : Hid (bareB 0 (xs, k) arr subs n = false) := Lib.hid (by simp only [bareB, HQ.out, HRR.out]; simp [h0])
          clear h0
          go_wp2
          go_ret
          exact ⟨ret_bool HR.out.symm, E2.out⟩
  · have hb : (num == 0) = false := by simp [h1]
    have HR : Hid (bareB num (xs, k) arr subs n = false) := Lib.hid (by simp only [bareB]; rw [decide_eq_false h1]; rfl)
    clear h1
    go_enter Try.func117, Try.ntmps117
    go_wp2
    go_ret
    exact ⟨ret_bool HR.out.symm, ((Ext.refl w).alloc _).alloc _⟩

set_option maxRecDepth 100000 in
set_option maxHeartbeats 800000 in
theorem bare_any (kind num k : Int) (u s v : Value) (xs : List Int) (arr : ByteArray) (subs : List Aff) (n : Nat) (w : World) (hu : IntsAt w u xs) (hs : AffsAt w s subs) (hv : ∃ p c, v = .slice p n c) (hn : n ≤ 9223372036854775807) :
    Calls Try.prog 107 #[.agg #[.int .i64 kind, .int .i64 num, u, .int .i64 k, .string arr, s, v]] w
      fun e w' => e = .returned (.bool (bareB num (xs, k) arr subs n)) ∧ Ext w w' := by
  obtain ⟨pu, cu, rfl, hmu, -⟩ := id hu
  obtain ⟨ps, cs, rfl, hms⟩ := hs.form
  obtain ⟨pv, cv, rfl⟩ := hv
  have HU := Lib.hid hu; have HS := Lib.hid hs; clear hu hs
  go_enter Try.func107, Try.ntmps107
  go_wp2_with (fail)
  refine (sameZ_any kind num k _ _ _ xs arr subs n _ (HU.out.ext ((Ext.refl w).alloc _)) (HS.out.ext ((Ext.refl w).alloc _)) ⟨_, _, rfl⟩ hn).mono ?_
  rintro e W1 ⟨rfl, hE⟩
  have E1 := Lib.hid (((Ext.refl w).alloc _).trans hE); clear hE
  go_wp2
  go_ret
  exact ⟨rfl, E1.out⟩
end Go.Proofs.Ytccibfldadflkaa
