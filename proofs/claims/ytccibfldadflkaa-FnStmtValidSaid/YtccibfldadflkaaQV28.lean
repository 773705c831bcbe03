/- The texts S18, joined. No statement is proved here. -/
import Derived.Test.YtccibfldadflkaaQV47
import Derived.Test.YtccibfldadflkaaQV27
/- StmtDepth, of the program and of the model. No statement is proved here. -/
namespace Go.Proofs.Ytccibfldadflkaa
open Go.RowKit

def firstD (f : Int → Bool) : Int := if f 0 = true then 0 else if f 1 = true then 1 else if f 2 = true then 2 else if f 3 = true then 3 else if f 4 = true then 4 else 0
theorem firstD_at {f : Int → Bool} {k : Nat} (hk : k < 5) (hall : ∀ j : Nat, j < k → f j = false) (hf : f k = true) : firstD f = k := by
  have a := fun (j : Nat) (h : j < k) => hall j h
  unfold firstD
  match k, hk, hf, a with
  | 0, _, hf, a => simp_all
  | 1, _, hf, a => have := a 0 (by omega); simp_all
  | 2, _, hf, a => have := a 0 (by omega); have := a 1 (by omega); simp_all
  | 3, _, hf, a => have := a 0 (by omega); have := a 1 (by omega); have := a 2 (by omega); simp_all
  | 4, _, hf, a => have := a 0 (by omega); have := a 1 (by omega); have := a 2 (by omega); have := a 3 (by omega); simp_all
theorem firstD_none {f : Int → Bool} (hall : ∀ j : Nat, j < 5 → f j = false) : firstD f = 0 := by
  have a := hall 0 (by omega); have b := hall 1 (by omega); have c := hall 2 (by omega); have d := hall 3 (by omega); have e := hall 4 (by omega)
  unfold firstD
  simp_all
theorem boundB_mono {d d' : Int} {a : Aff} (h : boundB d a = true) (hd : d ≤ d') : boundB d' a = true := by
  simp only [boundB, Bool.and_eq_true, decide_eq_true_eq] at h ⊢
  exact ⟨h.1, by omega⟩
theorem accB_mono {d d' : Int} {arr : ByteArray} {subs : List Aff} (h : accB arr subs d = true) (hd : d ≤ d') : accB arr subs d' = true := by
  simp only [accB, Bool.and_eq_true, List.all_eq_true] at h ⊢
  exact ⟨fun x hx => boundB_mono (h.1 x hx) hd, h.2⟩
theorem ownF_mono {d d' : Int} {kind num : Int} {ix : Aff} {arr : ByteArray} {subs : List Aff} (h : ownF kind num ix arr subs d = true) (hd : d ≤ d') : ownF kind num ix arr subs d' = true := by
  unfold ownF at h ⊢
  split
  · rename_i h1
    rw [if_pos h1] at h
    simp only [Bool.and_eq_true, decide_eq_true_eq] at h ⊢
    exact ⟨h.1, h.2.1, h.2.2.1, by omega⟩
  · rename_i h1
    rw [if_neg h1] at h
    split
    · rename_i h2
      rw [if_pos h2] at h
      simp only [Bool.and_eq_true, decide_eq_true_eq] at h ⊢
      exact ⟨h.1, h.2.1, accB_mono h.2.2 hd⟩
    · rename_i h2
      rw [if_neg h2] at h
      exact h
theorem shapeB_mono {d d' : Int} (hd : d ≤ d') : ∀ (L : Nat) (e : Ex), shapeB L e d = true → shapeB L e d' = true
  | 0, e, h => by simp [shapeB] at h
  | L + 1, e, h => by
    simp only [shapeB, Bool.and_eq_true, List.all_eq_true] at h ⊢
    exact ⟨h.1, ownF_mono h.2.1 hd, fun x hx => shapeB_mono hd L x (h.2.2 x hx)⟩
theorem validB_mono {arr : ByteArray} {subs : List Aff} {e : Ex} {d d' : Int} (h : validB arr subs e d = true) (hd : d ≤ d') (h4 : d' ≤ 4) : validB arr subs e d' = true := by
  simp only [validB, Bool.and_eq_true, decide_eq_true_eq] at h ⊢
  exact ⟨by omega, h4, accB_mono h.2.2.1 hd, shapeB_mono hd 5 e h.2.2.2.1, h.2.2.2.2⟩
def depS (arr : ByteArray) (subs : List Aff) (e : Ex) : Int := firstD (validB arr subs e)

set_option maxRecDepth 100000 in
set_option maxHeartbeats 1000000 in
theorem StmtDepth_any (v : Value) (arr : ByteArray) (subs : List Aff) (e : Ex) (w : World) (hs : StR w v arr subs e) :
    Calls Try.prog 25 #[v] w fun r w' => r = .returned (.int .i64 (depS arr subs e)) ∧ Ext w w' := by
  have HS := Lib.hid hs
  obtain ⟨q1, d1, q2, d2, q3, d3, q4, d4, rfl, ha, hs1, he⟩ := hs.parts
  obtain ⟨u', s', v', hcs, hu2, ha2, hs2, hv2⟩ := he.parts
  simp only [List.cons.injEq, and_true, true_and] at hcs
  obtain ⟨rfl, rfl, rfl⟩ := hcs
  clear hs hs1 he hu2 hs2 hv2 ha ha2
  go_enter Try.func25, Try.ntmps25
  go_wp2
  obtain ⟨W0, hW0⟩ : ∃ W0, w.alloc (.cells #[.string arr, .slice q1 subs.length d1, .int .i64 e.kind, .int .i64 e.num, .slice q2 e.ix.1.length d2, .int .i64 e.ix.2, .string e.arr, .slice q3 e.subs.length d3, .slice q4 e.kids.length d4] 56) = W0 := ⟨_, rfl⟩
  have E0 : Hid (Ext w W0) := Lib.hid (by rw [← hW0]; exact (Ext.refl w).alloc _)
  have B0 := Lib.hid (show W0.heap[w.heap.size]? = some (.cells #[.string arr, .slice q1 subs.length d1, .int .i64 e.kind, .int .i64 e.num, .slice q2 e.ix.1.length d2, .int .i64 e.ix.2, .string e.arr, .slice q3 e.subs.length d3, .slice q4 e.kids.length d4] 56 (0, 0)) by rw [← hW0]; exact blk_at rfl)
  rw [hW0]
  clear hW0
  go_loopw [4] (fun i wr => ∃ k : Nat, k ≤ 5 ∧ i = .int .i64 k ∧ (∀ j : Nat, j < k → validB arr subs e j = false) ∧ Ext W0 wr) (fun i _ => 5 - (intOf i).toNat)
  case atStart => exact ⟨0, by omega, rfl, fun j h => by omega, Ext.refl W0⟩
  case round =>
    obtain ⟨k, hk, rfl, hall, hE⟩ := hrel
    have HA := Lib.hid hall; have HE := Lib.hid hE
    have B1 := Lib.hid (hE.blk B0.out)
    clear hall hE
    obtain ⟨y0, y1, y2, y3, y4, y5, y6, y7, y8⟩ := blk9 B1.out
    by_cases hlt : k < 5
    · obtain ⟨q, hq⟩ : ∃ q, validB arr subs e k = q := ⟨_, rfl⟩
      have HQ := Lib.hid hq; clear hq
      go_wp2_with (fail)
      refine (StmtValid_any _ arr subs e k _ (HS.out.ext (E0.out.trans HE.out))).mono ?_
      rw [HQ.out]
      rintro r w1 ⟨rfl, hE1⟩
      have E1 := Lib.hid (HE.out.trans hE1); clear hE1 y0 y1 y2 y3 y4 y5 y6 y7 y8
      cases q with
      | true =>
        have HR : Hid (depS arr subs e = (k : Int)) := Lib.hid (firstD_at hlt HA.out HQ.out)
        go_wp2
        go_ret
        exact ⟨by rw [HR.out]; rfl, E0.out.trans E1.out⟩
      | false =>
        have HA2 : Hid (∀ j : Nat, j < k + 1 → validB arr subs e j = false) := Lib.hid (fun j hj => by
          rcases Nat.lt_succ_iff_lt_or_eq.1 hj with h | h
          · exact HA.out j h
          · rw [h]; exact HQ.out)
        go_wp2
        go_roundw
        case rel => exact ⟨k + 1, by omega, by go_num, HA2.out, E1.out⟩
        case measure => simp [intOf]; omega
    · obtain rfl : k = 5 := by omega
      have HR : Hid (depS arr subs e = 0) := Lib.hid (firstD_none HA.out)
      have EE := Lib.hid (E0.out.trans HE.out)
      go_wp2
      go_ret
      exact ⟨by rw [HR.out]; rfl, EE.out⟩

set_option maxRecDepth 100000 in
set_option maxHeartbeats 1000000 in
theorem specStmtDepth_any (v : Value) (arr : ByteArray) (subs : List Aff) (e : Ex) (w : World) (hs : StR w v arr subs e) :
    Calls Try.prog 26 #[v] w fun r w' => r = .returned (.int .i64 (depS arr subs e)) ∧ Ext w w' := by
  have HS := Lib.hid hs
  obtain ⟨q1, d1, q2, d2, q3, d3, q4, d4, rfl, ha, hs1, he⟩ := hs.parts
  obtain ⟨u', s', v', hcs, hu2, ha2, hs2, hv2⟩ := he.parts
  simp only [List.cons.injEq, and_true, true_and] at hcs
  obtain ⟨rfl, rfl, rfl⟩ := hcs
  clear hs hs1 he hu2 hs2 hv2 ha ha2
  obtain ⟨q, hq⟩ : ∃ q, validB arr subs e 4 = q := ⟨_, rfl⟩
  have HQ4 := Lib.hid hq; clear hq
  go_enter Try.func26, Try.ntmps26
  go_wp2_with (fail)
  refine (specStmtValid_any _ arr subs e 4 _ (HS.out.ext ((Ext.refl w).alloc _))).mono ?_
  rw [HQ4.out]
  rintro r W0 ⟨rfl, hE⟩
  have E0 := Lib.hid (((Ext.refl w).alloc _).trans hE); have B0 := Lib.hid (hE.blk (g := w.heap.size) (blk_at rfl)); clear hE
  cases q with
  | false =>
    have HR : Hid (depS arr subs e = 0) := Lib.hid (firstD_none (fun j hj => by
      cases h : validB arr subs e j with
      | false => rfl
      | true => have := validB_mono h (d' := 4) (by omega) (by omega); rw [HQ4.out] at this; cases this))
    go_wp2
    go_ret
    exact ⟨by rw [HR.out]; rfl, E0.out⟩
  | true =>
    go_wp2
    go_loopw [3] (fun i wr => ∃ k : Nat, k ≤ 4 ∧ i = .int .i64 k ∧ (∀ j : Nat, j < k → validB arr subs e j = false) ∧ Ext W0 wr) (fun i _ => 4 - (intOf i).toNat)
    case atStart => exact ⟨0, by omega, rfl, fun j h => by omega, Ext.refl W0⟩
    case round =>
      obtain ⟨k, hk, rfl, hall, hE⟩ := hrel
      have HA := Lib.hid hall; have HE := Lib.hid hE
      have B1 := Lib.hid (hE.blk B0.out)
      clear hall hE
      by_cases hlt : k < 4
      · obtain ⟨q, hq⟩ : ∃ q, validB arr subs e k = q := ⟨_, rfl⟩
        have HQ := Lib.hid hq; clear hq
        obtain ⟨y0, y1, y2, y3, y4, y5, y6, y7, y8⟩ := blk9 B1.out
        go_wp2_with (fail)
        refine (specStmtValid_any _ arr subs e k _ (HS.out.ext (E0.out.trans HE.out))).mono ?_
        rw [HQ.out]
        rintro r w1 ⟨rfl, hE1⟩
        have E1 := Lib.hid (HE.out.trans hE1); clear hE1 y0 y1 y2 y3 y4 y5 y6 y7 y8
        cases q with
        | true =>
          have HR : Hid (depS arr subs e = (k : Int)) := Lib.hid (firstD_at (by omega) HA.out HQ.out)
          go_wp2
          go_ret
          exact ⟨by rw [HR.out]; rfl, E0.out.trans E1.out⟩
        | false =>
          have HA2 : Hid (∀ j : Nat, j < k + 1 → validB arr subs e j = false) := Lib.hid (fun j hj => by
            rcases Nat.lt_succ_iff_lt_or_eq.1 hj with h | h
            · exact HA.out j h
            · rw [h]; exact HQ.out)
          go_wp2
          go_roundw
          case rel => exact ⟨k + 1, by omega, by go_num, HA2.out, E1.out⟩
          case measure => simp [intOf]; omega
      · obtain rfl : k = 4 := by omega
        have HR : Hid (depS arr subs e = 4) := Lib.hid (firstD_at (k := 4) (by omega) HA.out HQ4.out)
        have EE := Lib.hid (E0.out.trans HE.out)
        go_wp2
        go_ret
        exact ⟨by rw [HR.out]; rfl, EE.out⟩
end Go.Proofs.Ytccibfldadflkaa
