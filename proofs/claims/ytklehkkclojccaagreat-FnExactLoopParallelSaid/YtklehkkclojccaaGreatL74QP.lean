/- FnExactLoopParallel: LoopParallel answers as its model at every argument: the walk. -/
import Derived.Test.YtklehkkclojccaaGreatQP45
import Derived.Test.YtklehkkclojccaaGreatQP26
import Derived.Test.YtklehkkclojccaaGreatQP24
namespace Go.Proofs.YtklehkkclojccaaGreat
open Go.RowKit

set_option maxRecDepth 100000 in
set_option maxHeartbeats 4000000 in
theorem walk0FnExactLoopParallel (v : Value) (za zb : Int) (ars : List Arr) (ps : List Pt) (w : World) (hs : PrR w v ars ps) :
    Calls Tryz.prog 8 #[v, .int .i64 za, .int .i64 zb] w fun r w' => r = .returned (.bool true) ∧ Ext w w' := by
  have HS := Lib.hid hs
  obtain ⟨q1, c1, q2, c2, rfl, -, -, -, -⟩ := hs.parts
  obtain ⟨na, hna⟩ : ∃ n, ars.length = n := ⟨_, rfl⟩
  obtain ⟨np, hnp⟩ : ∃ n, ps.length = n := ⟨_, rfl⟩
  rw [hna, hnp] at HS ⊢
  have HNA := Lib.hid hna; have HNP := Lib.hid hnp
  clear hs hna hnp
  go_enter Tryz.func8, Tryz.ntmps8
  go_wp2_with (fail)
  refine (jY1i _ ars ps _ _ (HS.out.ext ((Ext.refl w).alloc _)) (by omega) (by omega)).mono ?_
  rintro r w1 ⟨⟨z, rfl, hz⟩, hE⟩
  have B1 := Lib.hid (hE.blk (g := w.heap.size) (blk_at rfl))
  have E1 := Lib.hid (((Ext.refl w).alloc _).trans hE)
  clear hE
  rcases hz with rfl | ⟨z0, z1, hsa, hsp⟩
  · go_wp2_with (fail)
    go_ret
    exact ⟨rfl, E1.out⟩
  · have HSA := Lib.hid hsa; have HSP := Lib.hid hsp; clear hsa hsp
    obtain ⟨y0, y1, -, -⟩ := blk2 B1.out
    go_wp2_with (fail)
    refine (jXB _ ars ps _ (HS.out.ext E1.out) HSA.out HSP.out).mono ?_
    rintro r w2 ⟨⟨v2, rfl, hv2⟩, hE⟩
    have B2 := Lib.hid (hE.blk B1.out); have E2 := Lib.hid (E1.out.trans hE); have HV2 := Lib.hid hv2.at
    clear hE hv2 y0 y1
    go_wp2_with (fail)
    refine (jW8 v2 ars ps za zb _ HV2.out).mono ?_
    rintro r w3 ⟨rfl, hE⟩
    have B3 := Lib.hid (hE.blk B2.out); have E3 := Lib.hid (E2.out.trans hE)
    clear hE
    obtain ⟨y0, y1, -, -⟩ := blk2 B3.out
    obtain ⟨ans, hans⟩ : ∃ a, lpB ars ps za zb = a := ⟨_, rfl⟩
    rw [hans]
    have HANS := Lib.hid hans; clear hans
    go_wp2_with (fail)
    refine (jXB _ ars ps _ (HS.out.ext E3.out) HSA.out HSP.out).mono ?_
    rintro r w4 ⟨⟨v4, rfl, hv4⟩, hE⟩
    have B4 := Lib.hid (hE.blk B3.out); have E4 := Lib.hid (E3.out.trans hE); have HV4 := Lib.hid hv4.at
    obtain ⟨q3, c3, q4, c4, rfl, -, -, -, -⟩ := hv4.at.parts
    rw [HNA.out, HNP.out] at HV4 ⊢
    clear hE hv4 y0 y1
    obtain ⟨w5, hw5⟩ : ∃ w5, w4.alloc (.cells #[.slice q3 na c3, .slice q4 np c4] 32) = w5 := ⟨_, rfl⟩
    have X5 : Ext w4 w5 := by rw [← hw5]; exact (Ext.refl w4).alloc _
    have BX5 : w5.heap[w4.heap.size]? = some (.cells #[.slice q3 na c3, .slice q4 np c4] 32 (0, 0)) := by rw [← hw5]; exact blk_at rfl
    have HW5 := Lib.hid hw5; have HX5 := Lib.hid X5; have HB5 := Lib.hid BX5
    clear hw5 X5 BX5
    go_wp2_with (fail)
    rw [HW5.out]
    refine (jVe _ ars ps za zb _ (HV4.out.ext HX5.out)).mono ?_
    rw [HANS.out]
    rintro r w6 ⟨rfl, hE⟩
    have X6 := Lib.hid (HX5.out.trans hE)
    have E6 := Lib.hid (E4.out.trans X6.out); have B6 := Lib.hid (X6.out.blk B4.out); have BX6 := Lib.hid (hE.blk HB5.out); have HX6 := Lib.hid (HV4.out.ext X6.out)
    clear hE
    obtain ⟨y0, y1, -, -⟩ := blk2 B6.out
    obtain ⟨z0', z1', -, -⟩ := blk2 BX6.out
    have u0 := z0'; have u1 := z1'
    clear z0' z1'
    have hne : (ans != ans) = false := by simp
    go_wp2
    go_region_held3 (fun W => W.cell? ⟨w.heap.size, 0, none⟩ = some (.slice q1 na c1) ∧ W.cell? ⟨w.heap.size, 1, none⟩ = some (.slice q2 np c2) ∧ W.cell? ⟨w4.heap.size, 0, none⟩ = some (.slice q3 na c3) ∧ W.cell? ⟨w4.heap.size, 1, none⟩ = some (.slice q4 np c4))
      (first | exact ⟨y0, y1, u0, u1⟩ | exact ⟨g3.keep y0, g3.keep y1, g3.keep u0, g3.keep u1⟩ | exact ⟨g4.keep y0, g4.keep y1, g4.keep u0, g4.keep u1⟩ | fail)
      (first | (go_at_call 14; (with_reducible refine (jXB _ ars ps _ (HS.out.ext (E6.out.trans (Ext.refl w6).drew)) HSA.out HSP.out).mono ?_); rintro r w7 ⟨⟨v7, rfl, hv7⟩, hE7⟩; have g3 := (Ext.refl w6).drew.trans hE7; have HV7 := Lib.hid hv7.at; have G3 := Lib.hid g3; clear hE7 hv7) | (go_at_call 17; (with_reducible refine (jY0b _ v7 ars ps _ (HX6.out.ext G3.out) HV7.out).mono ?_); rintro r w8 ⟨rfl, hE8⟩; have g4 := G3.out.trans hE8) | fail)
    go_wp2
    go_ret
    exact ⟨rfl, E6.out.trans g4⟩

theorem walkFnExactLoopParallel (v v1 v2 : Value) (w : World) (h : RProg w v) (h1 : RInt w v1) (h2 : RInt w v2) :
    Calls Tryz.prog 8 #[v, v1, v2] w fun e w' => e = .returned (.bool true) ∧ Below w.heap.size w w' := by
  obtain ⟨ars, ps, hs⟩ := h
  obtain ⟨za, rfl, _⟩ := h1
  obtain ⟨zb, rfl, _⟩ := h2
  exact walk0FnExactLoopParallel v za zb ars ps w hs
end Go.Proofs.YtklehkkclojccaaGreat
