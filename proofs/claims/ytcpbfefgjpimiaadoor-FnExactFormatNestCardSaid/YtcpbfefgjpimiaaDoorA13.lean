/- Contracts: the model's sums and multiples. -/
import Derived.Test.YtcpbfefgjpimiaaDoorA12
namespace Go.Proofs.YtcpbfefgjpimiaaDoor
open Go.RowKit

set_option maxHeartbeats 1000000 in
theorem l1Checked_yes (p : Option Addr) (n c : Nat) (xs : List Int) (k : Int) (w : World) (hs : IntsAt w (.slice p n c) xs) (hv : affValidB xs k = true) :
    Calls Tryd.prog 44 #[.agg #[.slice p n c, .int .i64 k]] w fun e w' => e = .returned (.tuple #[.agg #[.slice p n c, .int .i64 k], .bool true]) ∧ Ext w w' := by
  have HS := Lib.hid hs; have HV := Lib.hid hv; clear hs hv
  go_enter Tryd.func44, Tryd.ntmps44
  go_wp2_with (fail)
  refine (specAffineValid_any _ xs k _ (HS.out.ext (((Ext.refl w).alloc _).alloc _))).mono ?_
  rw [HV.out]
  rintro e W1 ⟨rfl, hE⟩
  have E1 : Hid (Ext w W1) := (((Ext.refl w).alloc _).alloc _).trans hE
  obtain ⟨c0, c1, -, -⟩ := blk2 (hE.blk (g := w.heap.size) (blk_old (blk_at rfl)))
  obtain ⟨r0, r1, f0, f1⟩ := blk2 (hE.blk (g := w.heap.size + 1) (blk_at (by simp)))
  clear hE
  go_wp2
  refine bodyPost_ret (v := .tuple #[.agg #[.slice p n c, .int .i64 k], .bool true]) (by simp [results, Tryd.results44, go_sem, r0, r1]) rfl ⟨rfl, ?_⟩
  exact (E1.out.setAt (by omega) _).setAt (by omega) _

set_option maxHeartbeats 1000000 in
theorem l1Checked_no (p : Option Addr) (n c : Nat) (xs : List Int) (k : Int) (w : World) (hs : IntsAt w (.slice p n c) xs) (hv : affValidB xs k = false) :
    Calls Tryd.prog 44 #[.agg #[.slice p n c, .int .i64 k]] w fun e w' => e = .returned (.tuple #[.agg #[.slice none 0 0, .int .i64 0], .bool false]) ∧ Ext w w' := by
  have HS := Lib.hid hs; have HV := Lib.hid hv; clear hs hv
  go_enter Tryd.func44, Tryd.ntmps44
  go_wp2_with (fail)
  refine (specAffineValid_any _ xs k _ (HS.out.ext (((Ext.refl w).alloc _).alloc _))).mono ?_
  rw [HV.out]
  rintro e W1 ⟨rfl, hE⟩
  have E1 : Hid (Ext w W1) := (((Ext.refl w).alloc _).alloc _).trans hE
  obtain ⟨r0, r1, f0, f1⟩ := blk2 (hE.blk (g := w.heap.size + 1) (blk_at (by simp)))
  clear hE
  go_wp2
  refine bodyPost_ret (v := .tuple #[.agg #[.slice none 0 0, .int .i64 0], .bool false]) (by simp [results, Tryd.results44, go_sem, r0, r1]) rfl ⟨rfl, ?_⟩
  exact (E1.out.setAt (by omega) _).setAt (by omega) _

theorem l1Checked_any (B : Nat) (p : Option Addr) (n c : Nat) (xs : List Int) (k : Int) (w : World) (ho : IntsOwn B w (.slice p n c) xs) (hn : xs.length = n) :
    Calls Tryd.prog 44 #[.agg #[.slice p n c, .int .i64 k]] w fun e w' => AffRet B w' e (chk xs k) ∧ Ext w w' := by
  cases hv : affValidB xs k with
  | true =>
    refine (l1Checked_yes p n c xs k w ho.at hv).mono ?_
    rintro e w' ⟨rfl, hE⟩
    unfold chk
    rw [if_pos hv]
    exact ⟨⟨p, c, by rw [hn], by rw [hn]; exact ho.ext hE⟩, hE⟩
  | false =>
    refine (l1Checked_no p n c xs k w ho.at hv).mono ?_
    rintro e w' ⟨rfl, hE⟩
    unfold chk
    rw [if_neg (by rw [hv]; decide)]
    exact ⟨AffRet.none _ _, hE⟩

theorem comb_add (xs ys : List Int) : comb xs 1 ys 1 = List.zipWith (· + ·) xs ys := by simp [comb]

theorem valid_get {xs : List Int} {k : Int} (h : affValidB xs k = true) {i : Nat} {a : Int} (ha : xs[i]? = some a) : -9 ≤ a ∧ a ≤ 9 := by
  simp only [affValidB, Bool.and_eq_true] at h
  have := List.all_eq_true.1 h.2.1 a (List.mem_of_getElem? ha)
  exact withinB_iff.1 this
theorem valid_const {xs : List Int} {k : Int} (h : affValidB xs k = true) : -99 ≤ k ∧ k ≤ 99 := by
  simp only [affValidB, Bool.and_eq_true] at h
  exact withinB_iff.1 h.2.2

end Go.Proofs.YtcpbfefgjpimiaaDoor
