/- FnStmtValid: a drawn statement that StmtValid of the program accepts within some loops is accepted within just as many as StmtDepth says, within no fewer, and within MaxVars: the walk. No condition. -/
import Derived.Test.YtccibfldadflkaaQV38
import Derived.Test.YtccibfldadflkaaQV28
import Derived.Test.YtccibfldadflkaaQV08
namespace Go.Proofs.Ytccibfldadflkaa
open Go.RowKit Go.ChangeShapes Go.WideShapes Go.ChangeAt Go.Joins

theorem accB_monoM {arr : ByteArray} {subs : List Aff} {d d' : Int} (h : d ≤ d') (ha : accB arr subs d = true) : accB arr subs d' = true := by
  simp only [accB, Bool.and_eq_true, List.all_eq_true, boundB, decide_eq_true_eq] at ha ⊢
  exact ⟨fun x hx => ⟨(ha.1 x hx).1, Int.le_trans (ha.1 x hx).2 h⟩, ha.2⟩
theorem ownF_monoM {kind num : Int} {ix : Aff} {arr : ByteArray} {subs : List Aff} {d d' : Int} (h : d ≤ d') (ho : ownF kind num ix arr subs d = true) : ownF kind num ix arr subs d' = true := by
  unfold ownF at ho ⊢
  split
  · rename_i hk
    rw [if_pos hk] at ho
    simp only [Bool.and_eq_true, decide_eq_true_eq] at ho ⊢
    exact ⟨ho.1, ho.2.1, ho.2.2.1, Int.le_trans ho.2.2.2 h⟩
  · rename_i hk
    rw [if_neg hk] at ho
    split
    · rename_i hk3
      rw [if_pos hk3] at ho
      simp only [Bool.and_eq_true] at ho ⊢
      exact ⟨ho.1, ho.2.1, accB_monoM h ho.2.2⟩
    · rename_i hk3
      rw [if_neg hk3] at ho
      exact ho
theorem shapeB_monoM {d d' : Int} (h : d ≤ d') : ∀ (L : Nat) (e : Ex), shapeB L e d = true → shapeB L e d' = true
  | 0, e, hs => by simp [shapeB] at hs
  | L + 1, e, hs => by
    simp only [shapeB, Bool.and_eq_true, List.all_eq_true] at hs ⊢
    exact ⟨hs.1, ownF_monoM h hs.2.1, fun x hx => shapeB_monoM h L x (hs.2.2 x hx)⟩
theorem validB_monoM {arr : ByteArray} {subs : List Aff} {e : Ex} {d d' : Int} (h : d ≤ d') (h4 : d' ≤ 4) (hv : validB arr subs e d = true) : validB arr subs e d' = true := by
  simp only [validB, Bool.and_eq_true, decide_eq_true_eq] at hv ⊢
  exact ⟨by omega, h4, accB_monoM h hv.2.2.1, shapeB_monoM h 5 e hv.2.2.2.1, hv.2.2.2.2⟩
theorem depS_is {arr : ByteArray} {subs : List Aff} {e : Ex} {d : Int} (hv : validB arr subs e d = true) : ∃ k : Nat, depS arr subs e = (k : Int) ∧ (k : Int) ≤ d ∧ k ≤ 4 ∧ validB arr subs e (k : Int) = true ∧ (k ≠ 0 → validB arr subs e ((k : Int) - 1) = false) ∧ validB arr subs e 4 = true := by
  have hb : 0 ≤ d ∧ d ≤ 4 := by
    have h := hv
    simp only [validB, Bool.and_eq_true, decide_eq_true_eq] at h
    exact ⟨h.1, h.2.1⟩
  have h4 : validB arr subs e 4 = true := validB_monoM hb.2 (by omega) hv
  unfold depS firstD
  have low : ∀ k : Int, k ≤ 4 → validB arr subs e k = false → k < d := fun k h5 hk => by
    rcases Classical.em (k < d) with h | h
    · exact h
    · rw [validB_monoM (by omega) h5 hv] at hk; cases hk
  cases h0 : validB arr subs e 0 with
  | true => exact ⟨0, by simp, by omega, by omega, h0, fun h => absurd rfl h, h4⟩
  | false =>
    have l0 := low 0 (by omega) h0
    cases h1 : validB arr subs e 1 with
    | true => exact ⟨1, by simp, by omega, by omega, h1, fun _ => h0, h4⟩
    | false =>
      have l1 := low 1 (by omega) h1
      cases h2 : validB arr subs e 2 with
      | true => exact ⟨2, by simp, by omega, by omega, h2, fun _ => h1, h4⟩
      | false =>
        have l2 := low 2 (by omega) h2
        cases h3 : validB arr subs e 3 with
        | true => exact ⟨3, by simp, by omega, by omega, h3, fun _ => h2, h4⟩
        | false =>
          have l3 := low 3 (by omega) h3
          exact ⟨4, by simp [h4], by omega, by omega, h4, fun _ => h3, h4⟩

set_option linter.unusedVariables false in
set_option maxRecDepth 100000 in
set_option maxHeartbeats 4000000 in
theorem walkFnStmtValid (v0 : Value) (w : World) (h0 : RBytes w v0) :
    Calls Try.prog 6 #[v0] w fun e w' => e = .returned (.bool true) ∧ Below w.heap.size w w' := by
  obtain ⟨p0, n0, c0, rfl, hb0, hl0⟩ := h0
  have hm0 := hb0.2.1
  have HB0 := Lib.hid hb0; have HL0 := Lib.hid hl0; clear hb0 hl0
  by_cases h0 : n0 ≤ 1048576
  · have hd0 : decide ((1048576 : Int) < n0) = false := by simp; omega
    go_enter Try.func6, Try.ntmps6
    go_wp2_with (fail)
    refine (DrawStmtValid_any p0 n0 c0 _ HB0.out HL0.out).mono ?_
    rintro r9 w1 ⟨⟨v, d, arr, subs, e, rfl, hst, hd1, hd2⟩, E1⟩
    obtain ⟨q1, d1, q2, d2, q3, d3, q4, d4, rfl, -, -, -⟩ := hst.parts
    obtain ⟨SB, hSB⟩ : ∃ g, w1.heap.size = g := ⟨_, rfl⟩
    obtain ⟨W2, hW2⟩ : ∃ W, w1.alloc (.cells #[.string arr, .slice q1 subs.length d1, .int .i64 e.kind, .int .i64 e.num, .slice q2 e.ix.1.length d2, .int .i64 e.ix.2, .string e.arr, .slice q3 e.subs.length d3, .slice q4 e.kids.length d4] 56) = W := ⟨_, rfl⟩
    have X12 : Ext w1 W2 := by rw [← hW2]; exact (Ext.refl w1).alloc _
    have B2 : Hid (W2.heap[SB]? = some (.cells #[.string arr, .slice q1 subs.length d1, .int .i64 e.kind, .int .i64 e.num, .slice q2 e.ix.1.length d2, .int .i64 e.ix.2, .string e.arr, .slice q3 e.subs.length d3, .slice q4 e.kids.length d4] 56 (0, 0))) := Lib.hid (by rw [← hW2]; exact blk_at hSB.symm)
    have ST := Lib.hid (hst.ext X12); have E2 := Lib.hid (Ext.trans E1 X12); have HW2 := Lib.hid hW2; have HSB := Lib.hid hSB
    obtain ⟨vb, hvb⟩ : ∃ b, validB arr subs e d = b := ⟨_, rfl⟩
    have HVB := Lib.hid hvb
    clear hst E1 X12 hW2 hSB hvb
    go_wp2_with (fail)
    try rw [HSB.out]
    try rw [HW2.out]
    obtain ⟨s0, s1, s2, s3, s4, s5, s6, s7, s8⟩ := blk9 B2.out
    go_wp2_with (fail)
    refine (StmtValid_any _ arr subs e d W2 ST.out).mono ?_
    rw [HVB.out]
    rintro r9 w3 ⟨rfl, hE⟩
    have E3 := Lib.hid (E2.out.trans hE); have B3 := Lib.hid (hE.blk B2.out); have ST3 := Lib.hid (ST.out.ext hE)
    clear hE s0 s1 s2 s3 s4 s5 s6 s7 s8
    obtain ⟨s0, s1, s2, s3, s4, s5, s6, s7, s8⟩ := blk9 B3.out
    have hqb : (vb != vb) = false := by simp
    have hqe : (vb == vb) = true := by simp
    go_wp2_with (fail)
    refine (specStmtValid_any _ arr subs e d w3 ST3.out).mono ?_
    rw [HVB.out]
    rintro r9 w4 ⟨rfl, hE⟩
    have E4 := Lib.hid (E3.out.trans hE); have B4 := Lib.hid (hE.blk B3.out); have ST4 := Lib.hid (ST3.out.ext hE)
    clear hE s0 s1 s2 s3 s4 s5 s6 s7 s8
    obtain ⟨s0, s1, s2, s3, s4, s5, s6, s7, s8⟩ := blk9 B4.out
    cases vb with
    | false =>
      go_wp2_with (fail)
      refine (specStmtValid_any _ arr subs e d w4 ST4.out).mono ?_
      rw [HVB.out]
      rintro r9 w5 ⟨rfl, hE⟩
      have E5 := Lib.hid (E4.out.trans hE)
      clear hE
      go_wp2
      go_ret
      exact ⟨rfl, E5.out⟩
    | true =>
      obtain ⟨k, hk, hkd, hk4, hvk, hvp, hv4⟩ := depS_is HVB.out
      have HK := Lib.hid hk; have HVK := Lib.hid hvk; have HVP := Lib.hid hvp; have HV4 := Lib.hid hv4
      clear hk hvk hvp hv4
      go_wp2_with (fail)
      refine (StmtDepth_any _ arr subs e w4 ST4.out).mono ?_
      rw [HK.out]
      rintro r9 w5 ⟨rfl, hE⟩
      have E5 := Lib.hid (E4.out.trans hE); have B5 := Lib.hid (hE.blk B4.out); have ST5 := Lib.hid (ST4.out.ext hE)
      clear hE s0 s1 s2 s3 s4 s5 s6 s7 s8
      obtain ⟨s0, s1, s2, s3, s4, s5, s6, s7, s8⟩ := blk9 B5.out
      go_wp2_with (fail)
      refine (specStmtDepth_any _ arr subs e w5 ST5.out).mono ?_
      rw [HK.out]
      rintro r9 w6 ⟨rfl, hE⟩
      have E6 := Lib.hid (E5.out.trans hE); have B6 := Lib.hid (hE.blk B5.out); have ST6 := Lib.hid (ST5.out.ext hE)
      clear hE s0 s1 s2 s3 s4 s5 s6 s7 s8
      obtain ⟨s0, s1, s2, s3, s4, s5, s6, s7, s8⟩ := blk9 B6.out
      have hkk : ((k : Int) == (k : Int)) = true := by simp
      have hkd2 : decide ((k : Int) ≤ d) = true := by simpa using hkd
      go_wp2_with (fail)
      refine (StmtValid_any _ arr subs e (k : Int) w6 ST6.out).mono ?_
      rw [HVK.out]
      rintro r9 w7 ⟨rfl, hE⟩
      have E7 := Lib.hid (E6.out.trans hE); have B7 := Lib.hid (hE.blk B6.out); have ST7 := Lib.hid (ST6.out.ext hE)
      clear hE s0 s1 s2 s3 s4 s5 s6 s7 s8
      obtain ⟨s0, s1, s2, s3, s4, s5, s6, s7, s8⟩ := blk9 B7.out
      by_cases hk0 : k = 0
      · subst hk0
        go_wp2_with (fail)
        refine (StmtValid_any _ arr subs e 4 w7 ST7.out).mono ?_
        rw [HV4.out]
        rintro r9 w8 ⟨rfl, hE⟩
        have E8 := Lib.hid (E7.out.trans hE)
        clear hE
        go_wp2
        go_ret
        exact ⟨rfl, E8.out⟩
      · have hkz : ((k : Int) == 0) = false := by simp; omega
        obtain ⟨k1, hk1⟩ : ∃ z : Int, (k : Int) - 1 = z := ⟨_, rfl⟩
        have hk1b : 0 ≤ k1 ∧ k1 ≤ 3 := by omega
        obtain ⟨hk1l, hk1u⟩ := hk1b
        have HVZ := Lib.hid (HVP.out hk0)
        rw [hk1] at HVZ
        clear hk0
        go_wp2_with (fail)
        refine (StmtValid_any _ arr subs e k1 w7 ST7.out).mono ?_
        rw [HVZ.out]
        rintro r9 w8 ⟨rfl, hE⟩
        have E8 := Lib.hid (E7.out.trans hE); have B8 := Lib.hid (hE.blk B7.out); have ST8 := Lib.hid (ST7.out.ext hE)
        clear hE s0 s1 s2 s3 s4 s5 s6 s7 s8
        obtain ⟨s0, s1, s2, s3, s4, s5, s6, s7, s8⟩ := blk9 B8.out
        go_wp2_with (fail)
        refine (StmtValid_any _ arr subs e 4 w8 ST8.out).mono ?_
        rw [HV4.out]
        rintro r9 w9 ⟨rfl, hE⟩
        have E9 := Lib.hid (E8.out.trans hE)
        clear hE
        go_wp2
        go_ret
        exact ⟨rfl, E9.out⟩
  · have hd0 : decide ((1048576 : Int) < n0) = true := by simp; omega
    go_enter Try.func6, Try.ntmps6
    go_wp2
    go_ret
    exact ⟨rfl, Ext.refl w⟩
end Go.Proofs.Ytccibfldadflkaa
