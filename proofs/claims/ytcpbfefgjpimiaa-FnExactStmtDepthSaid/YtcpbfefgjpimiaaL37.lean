/- FnExactStmtDepth: StmtDepth answers as its model at every argument: the walk. -/
import Derived.Test.YtcpbfefgjpimiaaS4
import Derived.Test.YtcpbfefgjpimiaaS18
import Derived.Test.YtcpbfefgjpimiaaN10
namespace Go.Proofs.Ytcpbfefgjpimiaa
open Go.RowKit

set_option maxRecDepth 100000 in
set_option maxHeartbeats 4000000 in
theorem walk0FnExactStmtDepth (v : Value) (arr : ByteArray) (subs : List Aff) (e : Ex) (w : World) (hs : StR w v arr subs e) :
    Calls Try.prog 4 #[v] w fun r w' => r = .returned (.bool true) ∧ Ext w w' := by
  have HS := Lib.hid hs
  obtain ⟨p1, pd1, p2, pd2, p3, pd3, p4, pd4, rfl, ha, hs1, he⟩ := hs.parts
  obtain ⟨u', s', v', hcs, hu2, ha2, hs2, hv2⟩ := he.parts
  simp only [List.cons.injEq, and_true, true_and] at hcs
  obtain ⟨rfl, rfl, rfl⟩ := hcs
  clear hs hs1 he hu2 hs2 hv2 ha ha2
  go_enter Try.func4, Try.ntmps4
  go_wp2_with (fail)
  refine (szStmt_any _ arr subs e _ _ (HS.out.ext ((Ext.refl w).alloc _)) (by omega) (by omega)).mono ?_
  rintro r w1 ⟨⟨z, rfl, hz⟩, hE⟩
  have B1 := Lib.hid (hE.blk (g := w.heap.size) (blk_at rfl))
  have E1 := Lib.hid (((Ext.refl w).alloc _).trans hE)
  clear hE
  rcases hz with rfl | ⟨z0, z1, -, hsa, hse⟩
  · go_wp2_with (fail)
    go_ret
    exact ⟨rfl, E1.out⟩
  · have HSA := Lib.hid hsa; have HSE := Lib.hid hse; clear hsa hse
    obtain ⟨y0, y1, y2, y3, y4, y5, y6, y7, y8⟩ := blk9 B1.out
    go_wp2_with (fail)
    refine (toStmt_any _ arr subs e _ (HS.out.ext E1.out) HSA.out HSE.out).mono ?_
    rintro r w2 ⟨⟨v2, rfl, hv2⟩, hE⟩
    have B2 := Lib.hid (hE.blk B1.out); have E2 := Lib.hid (E1.out.trans hE); have HV2 := Lib.hid hv2.at
    clear hE hv2 y0 y1 y2 y3 y4 y5 y6 y7 y8
    go_wp2_with (fail)
    refine (specStmtDepth_any v2 arr subs e _ HV2.out).mono ?_
    rintro r w3 ⟨rfl, hE⟩
    have B3 := Lib.hid (hE.blk B2.out); have E3 := Lib.hid (E2.out.trans hE)
    clear hE
    obtain ⟨y0, y1, y2, y3, y4, y5, y6, y7, y8⟩ := blk9 B3.out
    obtain ⟨ans, hans⟩ : ∃ a, depS arr subs e = a := ⟨_, rfl⟩
    rw [hans]
    have HANS := Lib.hid hans; clear hans
    go_wp2_with (fail)
    refine (toStmt_any _ arr subs e _ (HS.out.ext E3.out) HSA.out HSE.out).mono ?_
    rintro r w4 ⟨⟨v4, rfl, hv4⟩, hE⟩
    have B4 := Lib.hid (hE.blk B3.out); have E4 := Lib.hid (E3.out.trans hE); have HV4 := Lib.hid hv4.at
    obtain ⟨q1, qd1, q2, qd2, q3, qd3, q4, qd4, rfl, -, -, he4⟩ := hv4.at.parts
    obtain ⟨u', s', v', hcs, -, -, -, -⟩ := he4.parts
    simp only [List.cons.injEq, and_true, true_and] at hcs
    obtain ⟨rfl, rfl, rfl⟩ := hcs
    clear hE hv4 he4 y0 y1 y2 y3 y4 y5 y6 y7 y8
    obtain ⟨w5, hw5⟩ : ∃ w5, w4.alloc (.cells #[(.string arr), (.slice q1 subs.length qd1), (.int .i64 e.kind), (.int .i64 e.num), (.slice q2 e.ix.1.length qd2), (.int .i64 e.ix.2), (.string e.arr), (.slice q3 e.subs.length qd3), (.slice q4 e.kids.length qd4)] 43) = w5 := ⟨_, rfl⟩
    have X5 : Ext w4 w5 := by rw [← hw5]; exact (Ext.refl w4).alloc _
    have BX5 : w5.heap[w4.heap.size]? = some (.cells #[(.string arr), (.slice q1 subs.length qd1), (.int .i64 e.kind), (.int .i64 e.num), (.slice q2 e.ix.1.length qd2), (.int .i64 e.ix.2), (.string e.arr), (.slice q3 e.subs.length qd3), (.slice q4 e.kids.length qd4)] 43 (0, 0)) := by rw [← hw5]; exact blk_at rfl
    have HW5 := Lib.hid hw5; have HX5 := Lib.hid X5; have HB5 := Lib.hid BX5
    clear hw5 X5 BX5
    go_wp2_with (fail)
    rw [HW5.out]
    refine (StmtDepth_any _ arr subs e _ (HV4.out.ext HX5.out)).mono ?_
    rw [HANS.out]
    rintro r w6 ⟨rfl, hE⟩
    have X6 := Lib.hid (HX5.out.trans hE)
    have E6 := Lib.hid (E4.out.trans X6.out); have B6 := Lib.hid (X6.out.blk B4.out); have BX6 := Lib.hid (hE.blk HB5.out); have HX6 := Lib.hid (HV4.out.ext X6.out)
    clear hE
    obtain ⟨y0, y1, y2, y3, y4, y5, y6, y7, y8⟩ := blk9 B6.out
    obtain ⟨z0', z1', z2, z3, z4, z5, z6, z7, z8⟩ := blk9 BX6.out
    have z0 := z0'; have z1 := z1'
    clear z0' z1'
    have hne : (ans != ans) = false := by simp
    go_wp2
    refine wp_region_held_drew (S := (fun W => W.cell? ⟨w.heap.size, 0, none⟩ = some (.string arr) ∧ W.cell? ⟨w.heap.size, 1, none⟩ = some (.slice p1 subs.length pd1) ∧ W.cell? ⟨w.heap.size, 2, none⟩ = some (.int .i64 e.kind) ∧ W.cell? ⟨w.heap.size, 3, none⟩ = some (.int .i64 e.num) ∧ W.cell? ⟨w.heap.size, 4, none⟩ = some (.slice p2 e.ix.1.length pd2) ∧ W.cell? ⟨w.heap.size, 5, none⟩ = some (.int .i64 e.ix.2) ∧ W.cell? ⟨w.heap.size, 6, none⟩ = some (.string e.arr) ∧ W.cell? ⟨w.heap.size, 7, none⟩ = some (.slice p3 e.subs.length pd3) ∧ W.cell? ⟨w.heap.size, 8, none⟩ = some (.slice p4 e.kids.length pd4) ∧ W.cell? ⟨w4.heap.size, 0, none⟩ = some (.string arr) ∧ W.cell? ⟨w4.heap.size, 1, none⟩ = some (.slice q1 subs.length qd1) ∧ W.cell? ⟨w4.heap.size, 2, none⟩ = some (.int .i64 e.kind) ∧ W.cell? ⟨w4.heap.size, 3, none⟩ = some (.int .i64 e.num) ∧ W.cell? ⟨w4.heap.size, 4, none⟩ = some (.slice q2 e.ix.1.length qd2) ∧ W.cell? ⟨w4.heap.size, 5, none⟩ = some (.int .i64 e.ix.2) ∧ W.cell? ⟨w4.heap.size, 6, none⟩ = some (.string e.arr) ∧ W.cell? ⟨w4.heap.size, 7, none⟩ = some (.slice q3 e.subs.length qd3) ∧ W.cell? ⟨w4.heap.size, 8, none⟩ = some (.slice q4 e.kids.length qd4))) (by kernel_rfl) ⟨y0, y1, y2, y3, y4, y5, y6, y7, y8, z0, z1, z2, z3, z4, z5, z6, z7, z8⟩ (fun hHeld => ?_)
    refine wpAnyH_takeD (some 22) (i := 0) (v := ?vka0) rfl (by kernel_rfl) (by kernel_rfl) (by kernel_rfl) (by kernel_rfl) (fun _ _ _ h => h) (Or.inl ⟨by rfl, ?hyka0⟩) (by assumption) ?rka0
    case hyka0 => intro w hSw; (try dsimp only at hSw); go_simp; first | done | with_reducible rfl
    case' rka0 => try simp only [Act.put, List.setIfInBounds_toArray, List.set_cons_zero, List.set_cons_succ]
    refine wpAnyH_takeD (some 23) (i := 1) (v := ?vka1) rfl (by kernel_rfl) (by kernel_rfl) (by kernel_rfl) (by kernel_rfl) (fun _ _ _ h => h) (Or.inl ⟨by rfl, ?hyka1⟩) (by assumption) ?rka1
    case hyka1 => intro w hSw; (try dsimp only at hSw); go_simp; first | done | with_reducible rfl
    case' rka1 => try simp only [Act.put, List.setIfInBounds_toArray, List.set_cons_zero, List.set_cons_succ]
    refine wpAnyH_ready (rs := [2]) (by kernel_rfl) (by simp) ?_
    refine AllReadyH.cons rfl (fun K9 hK => ?_) AllReadyH.nil
    go_simp
    refine (toStmt_any _ arr subs e _ (HS.out.ext E6.out.drew) HSA.out HSE.out).mono ?_
    rintro r w7 ⟨⟨v7, rfl, hv7⟩, hE7⟩
    have g7 : Ext w6 w7 := (Ext.refl w6).drew.trans hE7
    have HV7 := Lib.hid hv7.at; have G7 := Lib.hid g7
    clear hE7 hv7
    refine hK.out _ _ ⟨g7.keep y0, g7.keep y1, g7.keep y2, g7.keep y3, g7.keep y4, g7.keep y5, g7.keep y6, g7.keep y7, g7.keep y8, g7.keep z0, g7.keep z1, g7.keep z2, g7.keep z3, g7.keep z4, g7.keep z5, g7.keep z6, g7.keep z7, g7.keep z8⟩ (fun hHka2 => ?_)
    clear hK K9
    try simp only [Act.put, List.setIfInBounds_toArray, List.set_cons_zero, List.set_cons_succ]
    refine wpAnyH_ready (rs := [3]) (by kernel_rfl) (by simp) ?_
    refine AllReadyH.cons rfl (fun K9 hK => ?_) AllReadyH.nil
    go_simp
    refine (eqStmt_same _ v7 arr subs e _ (HX6.out.ext G7.out) HV7.out).mono ?_
    rintro r w8 ⟨rfl, hE8⟩
    have g8 : Ext w6 w8 := G7.out.trans hE8
    have E8 : Hid (Ext w w8) := Lib.hid (E6.out.trans g8)
    clear hE8
    refine hK.out _ _ ⟨g8.keep y0, g8.keep y1, g8.keep y2, g8.keep y3, g8.keep y4, g8.keep y5, g8.keep y6, g8.keep y7, g8.keep y8, g8.keep z0, g8.keep z1, g8.keep z2, g8.keep z3, g8.keep z4, g8.keep z5, g8.keep z6, g8.keep z7, g8.keep z8⟩ (fun hHka3 => ?_)
    clear hK K9
    try simp only [Act.put, List.setIfInBounds_toArray, List.set_cons_zero, List.set_cons_succ]
    refine wpAnyH_takeD (some 26) (i := 4) (v := ?vka4) rfl (by kernel_rfl) (by kernel_rfl) (by kernel_rfl) (by kernel_rfl) (fun _ _ _ h => h) (Or.inl ⟨by rfl, ?hyka4⟩) (by assumption) ?rka4
    case hyka4 => intro w hSw; (try dsimp only at hSw); go_simp; first | done | with_reducible rfl
    case' rka4 => try simp only [Act.put, List.setIfInBounds_toArray, List.set_cons_zero, List.set_cons_succ]
    refine wpAnyH_done (by kernel_rfl) ?_ _
    go_wp2
    go_ret
    exact ⟨rfl, E8.out⟩
end Go.Proofs.Ytcpbfefgjpimiaa
