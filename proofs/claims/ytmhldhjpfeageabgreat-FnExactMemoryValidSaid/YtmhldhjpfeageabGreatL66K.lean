/- FnExactMemoryValid: MemoryValid answers as its model at every argument: the walk. -/
import Derived.Test.YtmhldhjpfeageabGreatK47
import Derived.Test.YtmhldhjpfeageabGreatK28
import Derived.Test.YtmhldhjpfeageabGreatK26
namespace Go.Proofs.YtmhldhjpfeageabGreat
open Go.RowKit

set_option maxRecDepth 100000 in
set_option maxHeartbeats 4000000 in
theorem walk0FnExactMemoryValid (v s : Value) (ars : List Arr) (ps : List Pt) (xs : List Int) (w : World) (hs : PrR w v ars ps) (hi : IntsAt w s xs) :
    Calls Tryz.prog 5 #[v, s] w fun r w' => r = .returned (.bool true) ∧ Ext w w' := by
  have HS := Lib.hid hs; have HI := Lib.hid hi
  obtain ⟨q1, c1, q2, c2, rfl, -, -, -, -⟩ := hs.parts
  obtain ⟨qi, ci, rfl, hm, -⟩ := id hi
  obtain ⟨na, hna⟩ : ∃ n, ars.length = n := ⟨_, rfl⟩
  obtain ⟨np, hnp⟩ : ∃ n, ps.length = n := ⟨_, rfl⟩
  obtain ⟨n, hn⟩ : ∃ n, xs.length = n := ⟨_, rfl⟩
  rw [hna, hnp] at HS
  rw [hn] at HI hm
  rw [hna, hnp, hn]
  have HNA := Lib.hid hna; have HNP := Lib.hid hnp; have HN := Lib.hid hn
  clear hs hi hna hnp hn
  by_cases hbig : (1048576 : Int) < n
  · go_enter Tryz.func5, Tryz.ntmps5
    go_wp2
    go_ret
    exact ⟨rfl, (Ext.refl w).alloc _⟩
  · have hy : n ≤ 1048576 := by omega
    go_enter Tryz.func5, Tryz.ntmps5
    go_wp2_with (fail)
    refine (szProgram_any _ ars ps _ _ (HS.out.ext ((Ext.refl w).alloc _)) (by omega) (by omega)).mono ?_
    rintro r w1 ⟨⟨z, rfl, hz⟩, hE⟩
    have B1 := Lib.hid (hE.blk (g := w.heap.size) (blk_at rfl))
    have E1 := Lib.hid (((Ext.refl w).alloc _).trans hE)
    clear hE
    rcases hz with rfl | ⟨z0, z1, hsa, hsp⟩
    · go_wp2_with (fail)
      go_ret
      exact ⟨rfl, E1.out⟩
    · have HSA := Lib.hid hsa; have HSP := Lib.hid hsp; clear hsa hsp
      obtain ⟨y0, y1, -, -⟩ := blk2 B1.out
      go_wp2_with (fail)
      refine (toProgram_any _ ars ps _ (HS.out.ext E1.out) HSA.out HSP.out).mono ?_
      rintro r w2 ⟨⟨v2, rfl, hv2⟩, hE⟩
      have B2 := Lib.hid (hE.blk B1.out); have E2 := Lib.hid (E1.out.trans hE); have HV2 := Lib.hid hv2.at
      clear hE hv2 y0 y1
      go_wp2_with (fail)
      refine (toIntS_any _ xs _ (HI.out.ext E2.out) (by rw [HN.out]; exact hy)).mono ?_
      rintro e w2' ⟨p2, d2, rfl, hi2, hE⟩
      rw [HN.out] at hi2 ⊢
      have B2' := Lib.hid (hE.blk B2.out); have E2' := Lib.hid (E2.out.trans hE); have HV2' := Lib.hid (HV2.out.ext hE); have HI2 := Lib.hid hi2.at
      clear hE hi2
      go_wp2_with (fail)
      refine (specMemoryValid_any v2 ars ps p2 n d2 xs _ HV2'.out HN.out HI2.out).mono ?_
      rintro r w3 ⟨rfl, hE⟩
      have B3 := Lib.hid (hE.blk B2'.out); have E3 := Lib.hid (E2'.out.trans hE)
      clear hE
      obtain ⟨y0, y1, -, -⟩ := blk2 B3.out
      obtain ⟨ans, hans⟩ : ∃ a, memB ars ps xs = a := ⟨_, rfl⟩
      rw [hans]
      have HANS := Lib.hid hans; clear hans
      go_wp2_with (fail)
      refine (toProgram_any _ ars ps _ (HS.out.ext E3.out) HSA.out HSP.out).mono ?_
      rintro r w4 ⟨⟨v4, rfl, hv4⟩, hE⟩
      have B4 := Lib.hid (hE.blk B3.out); have E4 := Lib.hid (E3.out.trans hE); have HV4 := Lib.hid hv4.at
      obtain ⟨q3, c3, q4, c4, rfl, -, -, -, -⟩ := hv4.at.parts
      rw [HNA.out, HNP.out] at HV4 ⊢
      clear hE hv4 y0 y1
      obtain ⟨w5, hw5⟩ : ∃ w5, w4.alloc (.cells #[.slice q3 na c3, .slice q4 np c4] 32) = w5 := ⟨_, rfl⟩
      have X5 : Ext w4 w5 := by rw [← hw5]; exact (Ext.refl w4).alloc _
      have BX5 : w5.heap[w4.heap.size]? = some (.cells #[.slice q3 na c3, .slice q4 np c4] 32 (0, 0)) := by rw [← hw5]; exact blk_at rfl
      have HW5 := Lib.hid hw5; have HX5 := Lib.hid X5; have HB5 := Lib.hid BX5
      clear hw5 X5 BX5
      go_wp2_with (fail)
      rw [HW5.out]
      refine (toIntS_any _ xs _ (HI.out.ext (E4.out.trans HX5.out)) (by rw [HN.out]; exact hy)).mono ?_
      rintro e w5' ⟨p5, d5, rfl, hi5, hE⟩
      rw [HN.out] at hi5 ⊢
      have X5' := Lib.hid (HX5.out.trans hE); have BX5' := Lib.hid (hE.blk HB5.out); have HI5 := Lib.hid hi5.at
      obtain ⟨u0, u1, -, -⟩ := blk2 BX5'.out
      clear hE hi5
      go_wp2_with (fail)
      refine (MemoryValid_any _ ars ps p5 n d5 xs _ (HV4.out.ext X5'.out) HN.out HI5.out).mono ?_
      rw [HANS.out]
      rintro r w6 ⟨rfl, hE⟩
      have X6 := Lib.hid (X5'.out.trans hE)
      have E6 := Lib.hid (E4.out.trans X6.out); have B6 := Lib.hid (X6.out.blk B4.out); have BX6 := Lib.hid (hE.blk BX5'.out); have HX6 := Lib.hid (HV4.out.ext X6.out); have HI6 := Lib.hid (HI5.out.ext hE)
      clear hE u0 u1
      obtain ⟨y0, y1, -, -⟩ := blk2 B6.out
      obtain ⟨u0, u1, -, -⟩ := blk2 BX6.out
      have hne : (ans != ans) = false := by simp
      go_wp2
      go_region_held3 (fun W => W.cell? ⟨w.heap.size, 0, none⟩ = some (.slice q1 na c1) ∧ W.cell? ⟨w.heap.size, 1, none⟩ = some (.slice q2 np c2) ∧ W.cell? ⟨w4.heap.size, 0, none⟩ = some (.slice q3 na c3) ∧ W.cell? ⟨w4.heap.size, 1, none⟩ = some (.slice q4 np c4))
        (first | exact ⟨y0, y1, u0, u1⟩ | exact ⟨g3.keep y0, g3.keep y1, g3.keep u0, g3.keep u1⟩ | exact ⟨g4.keep y0, g4.keep y1, g4.keep u0, g4.keep u1⟩ | fail)
        (first | (go_at_call 13; (with_reducible refine (toProgram_any _ ars ps _ (HS.out.ext (E6.out.trans (Ext.refl w6).drew)) HSA.out HSP.out).mono ?_); rintro r w7 ⟨⟨v7, rfl, hv7⟩, hE7⟩; have g3 := (Ext.refl w6).drew.trans hE7; have HV7 := Lib.hid hv7.at; have G3 := Lib.hid g3; clear hE7 hv7) | (go_at_call 16; (with_reducible refine (eqProgram_same _ v7 ars ps _ (HX6.out.ext G3.out) HV7.out).mono ?_); rintro r w8 ⟨rfl, hE8⟩; have g4 := G3.out.trans hE8) | fail)
      have E8 := Lib.hid (E6.out.trans g4); have HI8 := Lib.hid (HI6.out.ext g4)
      clear g4 y0 y1 u0 u1
      go_wp2_with (fail)
      refine (toIntS_any _ xs _ (HI.out.ext E8.out) (by rw [HN.out]; exact hy)).mono ?_
      rintro e w9 ⟨p9, d9, rfl, hi9, hE⟩
      rw [HN.out] at hi9 ⊢
      have E9 := Lib.hid (E8.out.trans hE); have HI89 := Lib.hid (HI8.out.ext hE); have HI9 := Lib.hid hi9.at
      clear hE hi9
      go_wp2_with (fail)
      refine (eqIntS_any _ _ xs xs _ HI89.out HI9.out).mono ?_
      rintro e w10 ⟨rfl, hE⟩
      have E10 := Lib.hid (E9.out.trans hE)
      have heq : eqB xs xs = true := eqB_all (Nat.le_refl _) (Nat.le_refl _) rfl
      clear hE
      go_wp2
      go_ret
      exact ⟨rfl, E10.out⟩

theorem walkFnExactMemoryValid (v s : Value) (w : World) (h : RProg w v) (h1 : RInts w s) :
    Calls Tryz.prog 5 #[v, s] w fun e w' => e = .returned (.bool true) ∧ Below w.heap.size w w' := by
  obtain ⟨ars, ps, hs⟩ := h
  obtain ⟨xs, hi, -⟩ := h1
  exact walk0FnExactMemoryValid v s ars ps xs w hs hi
end Go.Proofs.YtmhldhjpfeageabGreat
