/- The texts S10 R14, joined. No statement is proved here. -/
import Derived.Test.YtggpjapmhakklaaK38
import Derived.Test.YtggpjapmhakklaaK02
/- The model's StmtValid. No statement is proved here. -/
namespace Go.Proofs.Ytggpjapmhakklaa
open Go.RowKit

set_option maxRecDepth 100000 in
set_option maxHeartbeats 1600000 in
theorem specStmtValid_any (v : Value) (arr : ByteArray) (subs : List Aff) (e : Ex) (d : Int) (w : World) (hs : StR w v arr subs e) :
    Calls Try.prog 45 #[v, .int .i64 d] w fun r w' => r = .returned (.bool (validB arr subs e d)) ∧ Ext w w' := by
  obtain ⟨q1, d1, q2, d2, q3, d3, q4, d4, rfl, ha, hs1, he⟩ := hs.parts
  obtain ⟨u', s', v', hcs, hu2, ha2, hs2, hv2⟩ := he.parts
  simp only [List.cons.injEq, and_true, true_and] at hcs
  obtain ⟨rfl, rfl, rfl⟩ := hcs
  have HS := Lib.hid hs1; have HU2 := Lib.hid hu2; have HS2 := Lib.hid hs2; have HV2 := Lib.hid hv2; clear hs hs1 he hu2 hs2 hv2
  by_cases h0 : d < 0
  · have hb0 : decide (d < 0) = true := by simpa using h0
    have HR : Hid (validB arr subs e d = false) := Lib.hid (by unfold validB; rw [decide_eq_false (show ¬ 0 ≤ d by omega)]; rfl)
    clear h0
    go_enter Try.func45, Try.ntmps45
    go_wp2
    go_ret
    exact ⟨ret_bool HR.out.symm, (Ext.refl w).alloc _⟩
  have hb0 : decide (d < 0) = false := by simpa using h0
  by_cases h4 : 4 < d
  · have hb4 : decide (4 < d) = true := by simpa using h4
    have HR : Hid (validB arr subs e d = false) := Lib.hid (by unfold validB; rw [decide_eq_false (show ¬ d ≤ 4 by omega)]; simp)
    clear h0 h4
    go_enter Try.func45, Try.ntmps45
    go_wp2
    go_ret
    exact ⟨ret_bool HR.out.symm, (Ext.refl w).alloc _⟩
  have hb4 : decide (4 < d) = false := by simpa using h4
  have H04 := Lib.hid (And.intro h0 h4); clear h0 h4
  have EA : Hid (Ext w (w.alloc (.cells #[.string arr, .slice q1 subs.length d1, .int .i64 e.kind, .int .i64 e.num, .slice q2 e.ix.1.length d2, .int .i64 e.ix.2, .string e.arr, .slice q3 e.subs.length d3, .slice q4 e.kids.length d4] 50))) := Lib.hid ((Ext.refl w).alloc _)
  have BA : Hid ((w.alloc (.cells #[.string arr, .slice q1 subs.length d1, .int .i64 e.kind, .int .i64 e.num, .slice q2 e.ix.1.length d2, .int .i64 e.ix.2, .string e.arr, .slice q3 e.subs.length d3, .slice q4 e.kids.length d4] 50)).heap[w.heap.size]? = some (.cells #[.string arr, .slice q1 subs.length d1, .int .i64 e.kind, .int .i64 e.num, .slice q2 e.ix.1.length d2, .int .i64 e.ix.2, .string e.arr, .slice q3 e.subs.length d3, .slice q4 e.kids.length d4] 50 (0, 0))) := Lib.hid (blk_at rfl)
  cases hq1 : accB arr subs d with
  | false =>
    have HR : Hid (validB arr subs e d = false) := Lib.hid (by simp [validB, hq1])
    have HQ1 := Lib.hid hq1; clear hq1
    go_enter Try.func45, Try.ntmps45
    go_wp2_with (fail)
    refine (l3Access_any arr _ subs d _ ha (HS.out.ext EA.out)).mono ?_
    rw [HQ1.out]
    rintro r W1 ⟨rfl, hE1⟩
    have E1 := Lib.hid (EA.out.trans hE1); clear hE1
    go_wp2
    go_ret
    exact ⟨ret_bool HR.out.symm, E1.out⟩
  | true =>
    have HQ1 := Lib.hid hq1; clear hq1
    go_enter Try.func45, Try.ntmps45
    go_wp2_with (fail)
    refine (l3Access_any arr _ subs d _ ha (HS.out.ext EA.out)).mono ?_
    rw [HQ1.out]
    rintro r W1 ⟨rfl, hE1⟩
    have E1 := Lib.hid (EA.out.trans hE1); have B1 := Lib.hid (hE1.blk BA.out); clear hE1
    obtain ⟨-, -, y2, y3, y4, y5, y6, y7, y8⟩ := blk9 B1.out
    cases hq2 : shapeB 5 e d with
    | false =>
      have HR : Hid (validB arr subs e d = false) := Lib.hid (by simp [validB, hq2])
      have HQ2 := Lib.hid hq2; clear hq2
      go_wp2_with (fail)
      refine (l3Shape_any d 5 e _ _ _ W1 (by omega) (HU2.out.ext E1.out) ha2 (HS2.out.ext E1.out) (HV2.out.ext E1.out)).mono ?_
      rw [HQ2.out]
      rintro r W2 ⟨rfl, hE2⟩
      have E2 := Lib.hid (E1.out.trans hE2); clear hE2 y2 y3 y4 y5 y6 y7 y8
      go_wp2
      go_ret
      exact ⟨ret_bool HR.out.symm, E2.out⟩
    | true =>
      have HQ2 := Lib.hid hq2; clear hq2
      have hcb := countE_bd 5 e HQ2.out
      have h63 := bC_five (L := 5) (by omega)
      go_wp2_with (fail)
      refine (l3Shape_any d 5 e _ _ _ W1 (by omega) (HU2.out.ext E1.out) ha2 (HS2.out.ext E1.out) (HV2.out.ext E1.out)).mono ?_
      rw [HQ2.out]
      rintro r W2 ⟨rfl, hE2⟩
      have E2 := Lib.hid (E1.out.trans hE2); have B2 := Lib.hid (hE2.blk B1.out); clear hE2 y2 y3 y4 y5 y6 y7 y8
      obtain ⟨-, -, y2, y3, y4, y5, y6, y7, y8⟩ := blk9 B2.out
      go_wp2_with (fail)
      refine (l3Count_any d 5 e _ _ _ W2 (by omega) HQ2.out (HU2.out.ext E2.out) (HS2.out.ext E2.out) (HV2.out.ext E2.out)).mono ?_
      rintro r W3 ⟨rfl, hE3⟩
      have E3 := Lib.hid (E2.out.trans hE3); clear hE3 y2 y3 y4 y5 y6 y7 y8
      obtain ⟨C, hC⟩ : ∃ C, countE 5 e = C := ⟨_, rfl⟩
      have HR : Hid (validB arr subs e d = decide (C ≤ 12)) := Lib.hid (by
        have h1 := H04.out.1; have h2 := H04.out.2
        simp only [validB, HQ1.out, HQ2.out, hC]
        rw [decide_eq_true (show 0 ≤ d by omega), decide_eq_true (show d ≤ 4 by omega)]; simp)
      rw [hC] at hcb ⊢
      clear hC
      go_wp2
      go_ret
      exact ⟨ret_bool HR.out.symm, E3.out⟩
end Go.Proofs.Ytggpjapmhakklaa

/- The program's NestPoints: the consumer of the iterator. No statement is proved here. -/
namespace Go.Proofs.Ytggpjapmhakklaa
open Go.RowKit
attribute [local go_sem] Oper.semAt_some

theorem blk1 {W : World} {g : Nat} {a : Value} {t : TypeId} (h : W.heap[g]? = some (.cells #[a] t (0, 0))) : W.cell? ⟨g, 0, none⟩ = some a ∧ W.frozen? ⟨g, 0, none⟩ = false := by
  simp [World.cell?, World.frozen?, h]
theorem blk1_set {W : World} {g : Nat} {a b : Value} {t : TypeId} (h : W.heap[g]? = some (.cells #[a] t (0, 0))) : (W.setCell ⟨g, 0, none⟩ b).heap[g]? = some (.cells #[b] t (0, 0)) := by
  simpa using heap_setCell_same W g 0 #[a] t b h

theorem lv_set (W : World) (g o : Nat) (u : Value) : Lv (fun k => k = g) W (W.setCell ⟨g, o, none⟩ u) := Lv.grown (grown_set W g o u) (fun _ e _ => (Option.some.inj e).symm)
theorem PtsD.form {own : List Nat} {B : Nat} {X : World} {v : Value} {xss : List (List Int)} (h : PtsD own B X v xss) : ∃ p c, v = .slice p xss.length c := by
  obtain ⟨vs, ho, _⟩ := h
  rcases ho.2 with ⟨rfl, hn⟩ | ⟨g, cap, cur, rfl, _⟩
  · exact ⟨none, 0, by rw [hn]⟩
  · exact ⟨_, _, rfl⟩
end Go.Proofs.Ytggpjapmhakklaa
