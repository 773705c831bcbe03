/- The texts X4 S10, joined. No statement is proved here. -/
import Derived.Test.YtccibfldadflkaaQV40
import Derived.Test.YtccibfldadflkaaQV41
import Derived.Test.YtccibfldadflkaaQV18
/- Copies of expressions of statements by the model (by x4.py). No statement is proved here. -/
namespace Go.Proofs.Ytccibfldadflkaa
open Go.RowKit

theorem l3CopyAff_any (r : Value) (xs : List Int) (k : Int) (w : World) (hr : IntsAt w r xs) (h : xs.length = 0 ∨ xs.length = 4) :
    Calls Try.prog 115 #[.agg #[r, .int .i64 k]] w fun e w' => (∃ p cc, e = .returned (.agg #[.slice p xs.length cc, .int .i64 k]) ∧ IntsOwn w.heap.size w' (.slice p xs.length cc) xs) ∧ Ext w w' := by
  rcases h with h | h
  · obtain rfl := List.eq_nil_of_length_eq_zero h
    obtain ⟨p, cp, rfl, -, -⟩ := hr
    clear h
    go_enter Try.func115, Try.ntmps115
    go_wp2
    refine bodyPost_ret (v := .agg #[.slice none 0 0, .int .i64 k]) (by simp [results, Try.results115, go_sem]) rfl ⟨⟨none, 0, rfl, IntsOwn.nil _ _⟩, ?_⟩
    repeat (refine Ext.setAt ?_ (by simp) _)
    exact ((Ext.refl w).alloc _).alloc _
  · obtain ⟨a, b, c, d, rfl⟩ := four h
    exact l3CopyAffine4_any r a b c d k w hr

/-- The row of operands of a node that has just been made: no node in it uses its block. -/
def TopK (B : Nat) (w : World) (cs : List Value) (e : Ex) : Prop := ∃ EB q c css, cs[6]? = some (.slice q e.kids.length c) ∧ RowV EB w q e.kids.length c css e.kids ∧ B ≤ EB ∧ EB < w.heap.size
theorem sets7 {W : World} {g : Nat} {a0 a1 a2 a3 a4 a5 a6 u0 u1 u2 u3 u4 u5 u6 : Value} {t : TypeId} (h : W.heap[g]? = some (.cells #[a0, a1, a2, a3, a4, a5, a6] t (0, 0))) :
    (((((((W.setCell ⟨g, 0, none⟩ u0).setCell ⟨g, 1, none⟩ u1).setCell ⟨g, 2, none⟩ u2).setCell ⟨g, 3, none⟩ u3).setCell ⟨g, 4, none⟩ u4).setCell ⟨g, 5, none⟩ u5).setCell ⟨g, 6, none⟩ u6).heap[g]? = some (.cells #[u0, u1, u2, u3, u4, u5, u6] t (0, 0)) := by
  have h0 := heap_setCell_same W g 0 _ t u0 h
  have h1 := heap_setCell_same _ g 1 _ t u1 h0
  have h2 := heap_setCell_same _ g 2 _ t u2 h1
  have h3 := heap_setCell_same _ g 3 _ t u3 h2
  have h4 := heap_setCell_same _ g 4 _ t u4 h3
  have h5 := heap_setCell_same _ g 5 _ t u5 h4
  have h6 := heap_setCell_same _ g 6 _ t u6 h5
  simpa using h6
theorem sets7_grown (W : World) (g : Nat) (u0 u1 u2 u3 u4 u5 u6 : Value) : W.grownBy (((((((W.setCell ⟨g, 0, none⟩ u0).setCell ⟨g, 1, none⟩ u1).setCell ⟨g, 2, none⟩ u2).setCell ⟨g, 3, none⟩ u3).setCell ⟨g, 4, none⟩ u4).setCell ⟨g, 5, none⟩ u5).setCell ⟨g, 6, none⟩ u6) (some g) :=
  grownBy_trans (grownBy_trans (grownBy_trans (grownBy_trans (grownBy_trans (grownBy_trans (grown_set W g 0 u0) (grown_set _ g 1 u1)) (grown_set _ g 2 u2)) (grown_set _ g 3 u3)) (grown_set _ g 4 u4)) (grown_set _ g 5 u5)) (grown_set _ g 6 u6)
/-- What l3CopyExpr does with a node. -/
def CyE (w : World) (cs : List Value) (e : Ex) : Prop := GdE e → ∀ (w' : World), Ext w w' → Calls Try.prog 105 #[.agg cs.toArray] w' fun r w2 => (∃ cs2, r = .returned (.agg cs2.toArray) ∧ ExO w'.heap.size w2 cs2 e ∧ TopK w'.heap.size w2 cs2 e) ∧ Ext w' w2

set_option linter.unusedVariables false in
set_option linter.unusedSimpArgs false in
set_option maxRecDepth 100000 in
set_option maxHeartbeats 8000000 in
theorem l3CopyExpr_any {w : World} {cs : List Value} {e : Ex} (h : ExR w cs e) : CyE w cs e := by
  induction h with
  | mk kind num k u s xs arr subs p cap kids us hu ha hs hl hc hk ih =>
    intro hgd w' hE
    obtain ⟨i0, hi, hz0, hz1, hz2⟩ := info_parts infoExpr
    cases hgd with
    | mk _ _ _ _ _ _ _ hx0 hs0 hl0 hk0 =>
    obtain ⟨n, hn⟩ : ∃ n, kids.length = n := ⟨_, rfl⟩
    obtain ⟨pu, cu, rfl, hmu, -⟩ := id hu
    obtain ⟨ps, cs2, rfl, hms⟩ := hs.form
    obtain ⟨nx, hnx⟩ : ∃ n, xs.length = n := ⟨_, rfl⟩
    obtain ⟨ns, hns⟩ : ∃ n, subs.length = n := ⟨_, rfl⟩
    rw [hn] at hl hl0 ⊢
    rw [hnx] at hu hmu ⊢
    rw [hns] at hs hms ⊢
    have HU := Lib.hid hu; have HS := Lib.hid hs; have HC := Lib.hid hc; have HK := Lib.hid hk; have HI := Lib.hid ih; have HE := Lib.hid hE; have HK0 := Lib.hid hk0; have HX0 := Lib.hid hx0; have HS0 := Lib.hid hs0; have HN := Lib.hid hn; have HNX := Lib.hid hnx; have HNS := Lib.hid hns
    clear hs hc hk ih hu hE hk0 hx0 hs0 hn hnx hns
    obtain ⟨ga, hga⟩ : ∃ a, w'.heap.size = a := ⟨_, rfl⟩
    obtain ⟨w1, hw1⟩ : ∃ W, (w'.alloc (.cells #[.int .i64 kind, .int .i64 num, .slice pu nx cu, .int .i64 k, .string arr, .slice ps ns cs2, .slice p n cap] 54)).alloc (.cells #[.int .i64 0, .int .i64 0, .slice none 0 0, .int .i64 0, .string ⟨#[]⟩, .slice none 0 0, .slice none 0 0] 54) = W := ⟨_, rfl⟩
    have X01 : Ext w' w1 := by rw [← hw1]; exact ((Ext.refl w').alloc _).alloc _
    have GA1 : Hid (w1.heap[ga]? = some (.cells #[.int .i64 kind, .int .i64 num, .slice pu nx cu, .int .i64 k, .string arr, .slice ps ns cs2, .slice p n cap] 54 (0, 0))) := Lib.hid (by rw [← hw1]; exact blk_old (blk_at hga.symm))
    have RB1 : Hid (w1.heap[ga + 1]? = some (.cells #[.int .i64 0, .int .i64 0, .slice none 0 0, .int .i64 0, .string ⟨#[]⟩, .slice none 0 0, .slice none 0 0] 54 (0, 0))) := Lib.hid (by rw [← hw1]; exact blk_at (by simp [hga]))
    have hs1 : w1.heap.size = ga + 2 := by rw [← hw1]; simp [hga]
    have E1 := Lib.hid X01; have HU1 := Lib.hid (HU.out.ext (HE.out.trans X01)); have HS1 := Lib.hid (HS.out.ext (HE.out.trans X01))
    have HGA := Lib.hid hga; have HW1 := Lib.hid hw1; have HSZ := Lib.hid hs1
    clear X01 hga hw1 hs1
    go_enter Try.func105, Try.ntmps105
    go_upto_region 1 with (fail)
    try rw [HGA.out]
    try rw [HW1.out]
    obtain ⟨a0, a1, a2, a3, a4, a5, a6⟩ := blk7 GA1.out
    have HSA : Hid (∀ W, Ext w1 W → W.cell? ⟨ga, 0, none⟩ = some (.int .i64 kind) ∧ W.cell? ⟨ga, 1, none⟩ = some (.int .i64 num) ∧ W.cell? ⟨ga, 2, none⟩ = some (.slice pu nx cu) ∧ W.cell? ⟨ga, 3, none⟩ = some (.int .i64 k) ∧ W.cell? ⟨ga, 4, none⟩ = some (.string arr) ∧ W.cell? ⟨ga, 5, none⟩ = some (.slice ps ns cs2)) := Lib.hid (fun W h => ⟨h.keep a0, h.keep a1, h.keep a2, h.keep a3, h.keep a4, h.keep a5⟩)
    go_cut [3] (fun s3 wc => ∃ EB q1 d1 q2 d2, s3 = .pointer (some ⟨EB, 0, none⟩) ∧ wc.heap[EB]? = some (.cells #[.int .i64 kind, .int .i64 num, .slice q1 nx d1, .int .i64 k, .string arr, .slice q2 ns d2, .slice none 0 0] 54 (0, 0)) ∧ IntsOwn (ga + 2) wc (.slice q1 nx d1) xs ∧ AffsOwn (ga + 2) wc (.slice q2 ns d2) subs ∧ Ext w1 wc ∧ ga + 2 ≤ EB)
    case first =>
      refine wp_region_last (S := (fun W => W.cell? ⟨ga, 0, none⟩ = some (.int .i64 kind) ∧ W.cell? ⟨ga, 1, none⟩ = some (.int .i64 num) ∧ W.cell? ⟨ga, 2, none⟩ = some (.slice pu nx cu) ∧ W.cell? ⟨ga, 3, none⟩ = some (.int .i64 k) ∧ W.cell? ⟨ga, 4, none⟩ = some (.string arr) ∧ W.cell? ⟨ga, 5, none⟩ = some (.slice ps ns cs2))) (by kernel_rfl) (HSA.out _ (Ext.refl w1).drew) (fun hHeld => ?_)
      refine tkL (some 5) 0 ?vx1 rfl (by kernel_rfl) (by kernel_rfl) (fun _ _ _ h => h) (Or.inl ⟨by rfl, ?hyx1⟩) (by assumption) ?rx1
      case hyx1 => intro w hSw; (try dsimp only at hSw); go_simp; first | done | with_reducible rfl
      case' rx1 => try simp only [Act.put, List.setIfInBounds_toArray, List.set_cons_zero, List.set_cons_succ]
      refine tkL (some 6) 1 ?vx2 rfl (by kernel_rfl) (by kernel_rfl) (fun _ _ _ h => h) (Or.inl ⟨by rfl, ?hyx2⟩) (by assumption) ?rx2
      case hyx2 => intro w hSw; (try dsimp only at hSw); go_simp; first | done | with_reducible rfl
      case' rx2 => try simp only [Act.put, List.setIfInBounds_toArray, List.set_cons_zero, List.set_cons_succ]
      refine tkL (some 7) 2 ?vx3 rfl (by kernel_rfl) (by kernel_rfl) (fun _ _ _ h => h) (Or.inl ⟨by rfl, ?hyx3⟩) (by assumption) ?rx3
      case hyx3 => intro w hSw; (try dsimp only at hSw); go_simp; first | done | with_reducible rfl
      case' rx3 => try simp only [Act.put, List.setIfInBounds_toArray, List.set_cons_zero, List.set_cons_succ]
      refine tkL (some 8) 3 ?vx4 rfl (by kernel_rfl) (by kernel_rfl) (fun _ _ _ h => h) (Or.inl ⟨by rfl, ?hyx4⟩) (by assumption) ?rx4
      case hyx4 => intro w hSw; (try dsimp only at hSw); go_simp; first | done | with_reducible rfl
      case' rx4 => try simp only [Act.put, List.setIfInBounds_toArray, List.set_cons_zero, List.set_cons_succ]
      refine tkL (some 9) 4 ?vx5 rfl (by kernel_rfl) (by kernel_rfl) (fun _ _ _ h => h) (Or.inl ⟨by rfl, ?hyx5⟩) (by assumption) ?rx5
      case hyx5 => intro w hSw; (try dsimp only at hSw); go_simp; first | done | with_reducible rfl
      case' rx5 => try simp only [Act.put, List.setIfInBounds_toArray, List.set_cons_zero, List.set_cons_succ]
      refine tkL (some 10) 5 ?vx6 rfl (by kernel_rfl) (by kernel_rfl) (fun _ _ _ h => h) (Or.inl ⟨by rfl, ?hyx6⟩) (by assumption) ?rx6
      case hyx6 => intro w hSw; (try dsimp only at hSw); go_simp; first | done | with_reducible rfl
      case' rx6 => try simp only [Act.put, List.setIfInBounds_toArray, List.set_cons_zero, List.set_cons_succ]
      refine tkL (some 12) 7 ?vx7 rfl (by kernel_rfl) (by kernel_rfl) (fun _ _ _ h => h) (Or.inl ⟨by rfl, ?hyx7⟩) (by assumption) ?rx7
      case hyx7 => intro w hSw; (try dsimp only at hSw); go_simp; first | done | with_reducible rfl
      case' rx7 => try simp only [Act.put, List.setIfInBounds_toArray, List.set_cons_zero, List.set_cons_succ]
      refine tkL (some 13) 8 ?vx8 rfl (by kernel_rfl) (by kernel_rfl) (fun _ _ _ h => h) (Or.inl ⟨by rfl, ?hyx8⟩) (by assumption) ?rx8
      case hyx8 => intro w hSw; (try dsimp only at hSw); go_simp; first | done | with_reducible rfl
      case' rx8 => try simp only [Act.put, List.setIfInBounds_toArray, List.set_cons_zero, List.set_cons_succ]
      refine twoL (i := 6) (j := 11) rfl rfl (by kernel_rfl) (fun K9 hK => ?_) (fun K9 hK => ?_)
      · skip
        go_simp
        refine (l3CopyAff_any (.slice pu nx cu) xs k _ (HU1.out.ext (Ext.refl w1).drew) HX0.out).mono ?_
        rw [HNX.out]
        rintro e w2 ⟨⟨q1, d1, rfl, hv1⟩, hE2⟩
        have X2 : Ext w1 w2 := Ext.trans (Ext.refl w1).drew hE2
        have hv1' := hv1.weak (B' := ga + 2) (by have h1 := HSZ.out; have h2 := Ext.size_le (Ext.refl w1).drew; omega)
        refine hK.out _ _ (HSA.out _ X2) (fun hH9 => ?_)
        clear hK K9
        try simp only [Act.put, List.setIfInBounds_toArray, List.set_cons_zero, List.set_cons_succ]
        refine twoL (i := 9) (j := 11) rfl rfl (by kernel_rfl) (fun K9 hK => ?_) (fun K9 hK => ?_)
        · skip
          go_simp
          refine (l3CopyAccess_any arr (.slice ps ns cs2) subs _ (HS1.out.ext X2) (HS0.out.mono (by omega))).mono ?_
          rw [HNS.out]
          rintro e w3 ⟨⟨q2, d2, rfl, hv2⟩, hE3⟩
          have X3 : Ext w1 w3 := Ext.trans X2 hE3
          have hv2' := AffsOwn.weak (B' := ga + 2) hv2 (by have h1 := HSZ.out; have h2 := Ext.size_le X2; omega)
          have hv3' := hv1'.ext (Ext.trans (Ext.refl w2) hE3)
          refine hK.out _ _ (HSA.out _ X3) (fun hH10 => ?_)
          clear hK K9
          try simp only [Act.put, List.setIfInBounds_toArray, List.set_cons_zero, List.set_cons_succ]
          refine tkL (some 15) 10 ?vx11 rfl (by kernel_rfl) (by kernel_rfl) (fun _ _ _ h => h) (Or.inl ⟨by rfl, ?hyx11⟩) (by assumption) ?rx11
          case hyx11 => intro w hSw; (try dsimp only at hSw); go_simp; first | done | with_reducible rfl
          case' rx11 => try simp only [Act.put, List.setIfInBounds_toArray, List.set_cons_zero, List.set_cons_succ]
          refine oneL (i := 11) rfl (by kernel_rfl) (fun K9 hK => ?_)
          go_simp
          have ZC := blk_at (w := w3) (g := w3.heap.size) (o := (.cells #[.int .i64 0, .int .i64 0, .slice none 0 0, .int .i64 0, .string ⟨#[]⟩, .slice none 0 0, .slice none 0 0] 54)) rfl
          have hz3 := X3.size_le
          refine hK.out _ _ (HSA.out _ (X3.alloc _)) (fun hH12 => ?_)
          clear hK K9
          try simp only [Act.put, List.setIfInBounds_toArray, List.set_cons_zero, List.set_cons_succ]
          refine lastL (i := 12) rfl (by kernel_rfl) (by kernel_rfl) (fun K9 hK => ?_)
          go_simp
          refine hK.out _ _ ?_
          clear hK K9
          try simp only [Act.put, List.setIfInBounds_toArray, List.set_cons_zero, List.set_cons_succ]
          go_wp2
          go_meet
          exact ⟨_, q1, d1, q2, d2, rfl, blk_at rfl, hv3'.ext ((Ext.refl w3).alloc _), AffsOwn.ext hv2' ((Ext.refl w3).alloc _), X3.alloc _, by have h1 := HSZ.out; omega⟩
        · skip
          go_simp
          have hz3 := X2.size_le
          refine hK.out _ _ (HSA.out _ (X2.alloc _)) (fun hH13 => ?_)
          clear hK K9
          try simp only [Act.put, List.setIfInBounds_toArray, List.set_cons_zero, List.set_cons_succ]
          refine oneL (i := 9) rfl (by kernel_rfl) (fun K9 hK => ?_)
          go_simp
          refine (l3CopyAccess_any arr (.slice ps ns cs2) subs _ (HS1.out.ext (X2.alloc _)) (HS0.out.mono (by omega))).mono ?_
          rw [HNS.out]
          rintro e w3 ⟨⟨q2, d2, rfl, hv2⟩, hE3⟩
          have X3 : Ext w1 w3 := Ext.trans (X2.alloc _) hE3
          have hv2' := AffsOwn.weak (B' := ga + 2) hv2 (by have h1 := HSZ.out; have h2 := Ext.size_le (X2.alloc (.cells #[.int .i64 0, .int .i64 0, .slice none 0 0, .int .i64 0, .string ⟨#[]⟩, .slice none 0 0, .slice none 0 0] 54)); omega)
          have hv3' := hv1'.ext (Ext.trans ((Ext.refl w2).alloc (.cells #[.int .i64 0, .int .i64 0, .slice none 0 0, .int .i64 0, .string ⟨#[]⟩, .slice none 0 0, .slice none 0 0] 54)) hE3)
          have ZC := hE3.blk (blk_at (w := w2) (g := w2.heap.size) (o := (.cells #[.int .i64 0, .int .i64 0, .slice none 0 0, .int .i64 0, .string ⟨#[]⟩, .slice none 0 0, .slice none 0 0] 54)) rfl)
          refine hK.out _ _ (HSA.out _ X3) (fun hH14 => ?_)
          clear hK K9
          try simp only [Act.put, List.setIfInBounds_toArray, List.set_cons_zero, List.set_cons_succ]
          refine tkL (some 15) 10 ?vx15 rfl (by kernel_rfl) (by kernel_rfl) (fun _ _ _ h => h) (Or.inl ⟨by rfl, ?hyx15⟩) (by assumption) ?rx15
          case hyx15 => intro w hSw; (try dsimp only at hSw); go_simp; first | done | with_reducible rfl
          case' rx15 => try simp only [Act.put, List.setIfInBounds_toArray, List.set_cons_zero, List.set_cons_succ]
          have zl := lt_of_block ZC
          obtain ⟨z0, z1, z2, z3, z4, z5, z6⟩ := blk7 ZC
          have y0 := blk7f ZC 0; have y1 := blk7f ZC 1; have y2 := blk7f ZC 2; have y3 := blk7f ZC 3; have y4 := blk7f ZC 4; have y5 := blk7f ZC 5; have y6 := blk7f ZC 6
          refine lastL (i := 12) rfl (by kernel_rfl) (by kernel_rfl) (fun K9 hK => ?_)
          go_simp
          refine hK.out _ _ ?_
          clear hK K9
          try simp only [Act.put, List.setIfInBounds_toArray, List.set_cons_zero, List.set_cons_succ]
          go_wp2
          go_meet
          exact ⟨_, q1, d1, q2, d2, rfl, sets7 ZC, IntsOwn.tag hv3' (sets7_grown _ _ _ _ _ _ _ _ _) (Tag.blk ZC) (by decide), AffsOwn.tag hv2' (sets7_grown _ _ _ _ _ _ _ _ _) (Tag.blk ZC) (by decide) (by decide), Ext.grown X3 (sets7_grown _ _ _ _ _ _ _ _ _) (fun b hb => by have h1 := HSZ.out; have := Option.some.inj hb; omega), by have h1 := HSZ.out; omega⟩
      · skip
        go_simp
        refine hK.out _ _ (HSA.out _ ((Ext.refl w1).drew.alloc _)) (fun hH16 => ?_)
        clear hK K9
        try simp only [Act.put, List.setIfInBounds_toArray, List.set_cons_zero, List.set_cons_succ]
        refine oneL (i := 6) rfl (by kernel_rfl) (fun K9 hK => ?_)
        go_simp
        refine (l3CopyAff_any (.slice pu nx cu) xs k _ (HU1.out.ext ((Ext.refl w1).drew.alloc _)) HX0.out).mono ?_
        rw [HNX.out]
        rintro e w2 ⟨⟨q1, d1, rfl, hv1⟩, hE2⟩
        have X2 : Ext w1 w2 := Ext.trans ((Ext.refl w1).drew.alloc _) hE2
        have hv1' := hv1.weak (B' := ga + 2) (by have h1 := HSZ.out; have h2 := Ext.size_le ((Ext.refl w1).drew.alloc (.cells #[.int .i64 0, .int .i64 0, .slice none 0 0, .int .i64 0, .string ⟨#[]⟩, .slice none 0 0, .slice none 0 0] 54)); omega)
        have ZB := hE2.blk (blk_at (w := w1.drew) (g := w1.heap.size) (o := (.cells #[.int .i64 0, .int .i64 0, .slice none 0 0, .int .i64 0, .string ⟨#[]⟩, .slice none 0 0, .slice none 0 0] 54)) rfl)
        refine hK.out _ _ (HSA.out _ X2) (fun hH17 => ?_)
        clear hK K9
        try simp only [Act.put, List.setIfInBounds_toArray, List.set_cons_zero, List.set_cons_succ]
        refine oneL (i := 9) rfl (by kernel_rfl) (fun K9 hK => ?_)
        go_simp
        refine (l3CopyAccess_any arr (.slice ps ns cs2) subs _ (HS1.out.ext X2) (HS0.out.mono (by omega))).mono ?_
        rw [HNS.out]
        rintro e w3 ⟨⟨q2, d2, rfl, hv2⟩, hE3⟩
        have X3 : Ext w1 w3 := Ext.trans X2 hE3
        have hv2' := AffsOwn.weak (B' := ga + 2) hv2 (by have h1 := HSZ.out; have h2 := Ext.size_le X2; omega)
        have hv3' := hv1'.ext (Ext.trans (Ext.refl w2) hE3)
        have ZC := hE3.blk ZB
        refine hK.out _ _ (HSA.out _ X3) (fun hH18 => ?_)
        clear hK K9
        try simp only [Act.put, List.setIfInBounds_toArray, List.set_cons_zero, List.set_cons_succ]
        refine tkL (some 15) 10 ?vx19 rfl (by kernel_rfl) (by kernel_rfl) (fun _ _ _ h => h) (Or.inl ⟨by rfl, ?hyx19⟩) (by assumption) ?rx19
        case hyx19 => intro w hSw; (try dsimp only at hSw); go_simp; first | done | with_reducible rfl
        case' rx19 => try simp only [Act.put, List.setIfInBounds_toArray, List.set_cons_zero, List.set_cons_succ]
        have zl := lt_of_block ZC
        obtain ⟨z0, z1, z2, z3, z4, z5, z6⟩ := blk7 ZC
        have y0 := blk7f ZC 0; have y1 := blk7f ZC 1; have y2 := blk7f ZC 2; have y3 := blk7f ZC 3; have y4 := blk7f ZC 4; have y5 := blk7f ZC 5; have y6 := blk7f ZC 6
        refine lastL (i := 12) rfl (by kernel_rfl) (by kernel_rfl) (fun K9 hK => ?_)
        go_simp
        refine hK.out _ _ ?_
        clear hK K9
        try simp only [Act.put, List.setIfInBounds_toArray, List.set_cons_zero, List.set_cons_succ]
        go_wp2
        go_meet
        exact ⟨_, q1, d1, q2, d2, rfl, sets7 ZC, IntsOwn.tag hv3' (sets7_grown _ _ _ _ _ _ _ _ _) (Tag.blk ZC) (by decide), AffsOwn.tag hv2' (sets7_grown _ _ _ _ _ _ _ _ _) (Tag.blk ZC) (by decide) (by decide), Ext.grown X3 (sets7_grown _ _ _ _ _ _ _ _ _) (fun b hb => by have h1 := HSZ.out; have := Option.some.inj hb; omega), by have h1 := HSZ.out; omega⟩
    case rest =>
      obtain ⟨EB, q1, d1, q2, d2, rfl, hEB, hUO, hSO2, hE2, hEBl⟩ := hcut
      have E2' := E1.out.trans hE2
      have B0 := Lib.hid hEB; have U0 := Lib.hid hUO; have S0 := Lib.hid hSO2; have G0 := Lib.hid (hE2.blk GA1.out); have R0 := Lib.hid (hE2.blk RB1.out); have EW0 := Lib.hid E2'
      clear hEB hUO hSO2 hE2 E2' GA1 RB1 a0 a1 a2 a3 a4 a5 a6 HSA
      go_wp2
      go_loopw [4] (fun iv wr => ∃ (j : Nat) (q : Option Addr) (c : Nat) (css : List (List Value)), j ≤ n ∧ iv = .int .i64 j ∧ RowV EB wr q j c css (kids.take j) ∧ wr.heap[EB]? = some (.cells #[.int .i64 kind, .int .i64 num, .slice q1 nx d1, .int .i64 k, .string arr, .slice q2 ns d2, .slice q j c] 54 (0, 0)) ∧
        wr.heap[ga + 1]? = some (.cells #[.int .i64 0, .int .i64 0, .slice none 0 0, .int .i64 0, .string ⟨#[]⟩, .slice none 0 0, .slice none 0 0] 54 (0, 0)) ∧ wr.heap[ga]? = some (.cells #[.int .i64 kind, .int .i64 num, .slice pu nx cu, .int .i64 k, .string arr, .slice ps ns cs2, .slice p n cap] 54 (0, 0)) ∧
        IntsOwn (ga + 2) wr (.slice q1 nx d1) xs ∧ AffsOwn (ga + 2) wr (.slice q2 ns d2) subs ∧ Ext w' wr) (fun iv _ => n - (intOf iv).toNat)
      case atStart => exact ⟨0, _, _, _, by omega, rfl, RowV.nil _ _, B0.out, R0.out, G0.out, U0.out, S0.out, EW0.out⟩
      case round =>
        obtain ⟨j, q, c, css, hj, rfl, hRV, hEB, hRB, hGB, hUO, hSO2, hE2⟩ := hrel
        have HRV := Lib.hid hRV; have HEB := Lib.hid hEB; have HRB := Lib.hid hRB; have HGAB := Lib.hid hGB; have HUO := Lib.hid hUO; have HSO2 := Lib.hid hSO2; have HE2 := Lib.hid hE2
        have hwE : EB + 1 ≤ wr.heap.size := lt_of_block hEB
        have HQ : Hid (∀ b, (Value.slice q j c).ownBlock = some b → b < wr.heap.size) := Lib.hid (fun b hb => (hRV.2.2.1.lt b hb).2)
        have hg6 := (blk7 hGB).2.2.2.2.2.2
        clear hRV hEB hRB hGB hUO hSO2 hE2 B0 R0 G0 U0 S0 EW0
        by_cases hlt : j < n
        · obtain ⟨x, hx⟩ := get_some (xs := kids) (k := j) (by rw [HN.out]; exact hlt)
          have HEW : Hid (Ext w wr) := Lib.hid (HE.out.trans HE2.out)
          obtain ⟨b, off, rfl, hbl, hcell⟩ := HC.out j x hx
          have hij := HI.out j x hx (HK0.out x (List.mem_of_getElem? hx))
          obtain ⟨xu, xs2, xv, hcs, -, -, -, -⟩ := (HK.out j x hx).parts
          rw [hcs] at hcell hij
          have c0 := HEW.out.keep (hcell 0 _ rfl); have c1 := HEW.out.keep (hcell 1 _ rfl); have c2 := HEW.out.keep (hcell 2 _ rfl); have c3 := HEW.out.keep (hcell 3 _ rfl); have c4 := HEW.out.keep (hcell 4 _ rfl); have c5 := HEW.out.keep (hcell 5 _ rfl); have c6 := HEW.out.keep (hcell 6 _ rfl)
          rw [Nat.add_zero] at c0
          have HIJ := Lib.hid hij; have HGX := Lib.hid (HK0.out x (List.mem_of_getElem? hx))
          have HTK := Lib.hid (take_next hx)
          have hbw : b < wr.heap.size := by have := HEW.out.size_le; omega
          have hbE : b ≠ EB ∧ b < EB + 1 := by
            have h1 := HE.out.size_le
            have h2 := HGA.out
            omega
          have HSO : Hid (∀ W, Ext wr W → W.cell? ⟨EB, 6, none⟩ = some (.slice q j c) ∧ W.cell? ⟨ga, 6, none⟩ = some (.slice (some ⟨b, off, none⟩) n cap) ∧ W.cell? ⟨b, off + j * 7, none⟩ = some (.int .i64 x.kind) ∧ W.cell? ⟨b, off + j * 7 + 1, none⟩ = some (.int .i64 x.num) ∧ W.cell? ⟨b, off + j * 7 + 2, none⟩ = some xu ∧ W.cell? ⟨b, off + j * 7 + 3, none⟩ = some (.int .i64 x.ix.2) ∧ W.cell? ⟨b, off + j * 7 + 4, none⟩ = some (.string x.arr) ∧ W.cell? ⟨b, off + j * 7 + 5, none⟩ = some xs2 ∧ W.cell? ⟨b, off + j * 7 + 6, none⟩ = some xv) := Lib.hid (fun W h => ⟨h.keep (blk7 HEB.out).2.2.2.2.2.2, h.keep hg6, h.keep c0, h.keep c1, h.keep c2, h.keep c3, h.keep c4, h.keep c5, h.keep c6⟩)
          have HSG : Hid (∀ A W, Ext wr A → A.grownBy W (Value.slice q j c).ownBlock → W.cell? ⟨EB, 6, none⟩ = some (.slice q j c) ∧ W.cell? ⟨ga, 6, none⟩ = some (.slice (some ⟨b, off, none⟩) n cap) ∧ W.cell? ⟨b, off + j * 7, none⟩ = some (.int .i64 x.kind) ∧ W.cell? ⟨b, off + j * 7 + 1, none⟩ = some (.int .i64 x.num) ∧ W.cell? ⟨b, off + j * 7 + 2, none⟩ = some xu ∧ W.cell? ⟨b, off + j * 7 + 3, none⟩ = some (.int .i64 x.ix.2) ∧ W.cell? ⟨b, off + j * 7 + 4, none⟩ = some (.string x.arr) ∧ W.cell? ⟨b, off + j * 7 + 5, none⟩ = some xs2 ∧ W.cell? ⟨b, off + j * 7 + 6, none⟩ = some xv) := Lib.hid (fun A W h hg => by
            have hne : ∀ g, g ≤ EB → some g ≠ (Value.slice q j c).ownBlock := fun g hg' e => by have := (HRV.out.2.2.1.lt g e.symm).1; omega
            have kp : ∀ (g o : Nat) (v : Value), g ≤ EB → g < wr.heap.size → wr.cell? ⟨g, o, none⟩ = some v → W.cell? ⟨g, o, none⟩ = some v := fun g o v h1 h2 h3 =>
              (World.cell?_of_block (hg.block g (by have := h.size_le; omega) (hne g h1))).trans (h.keep h3)
            exact ⟨kp _ _ _ (Nat.le_refl _) (lt_of_block HEB.out) (blk7 HEB.out).2.2.2.2.2.2, kp _ _ _ (by omega) (lt_of_block HGAB.out) hg6, kp _ _ _ (by omega) hbw c0, kp _ _ _ (by omega) hbw c1, kp _ _ _ (by omega) hbw c2, kp _ _ _ (by omega) hbw c3, kp _ _ _ (by omega) hbw c4, kp _ _ _ (by omega) hbw c5, kp _ _ _ (by omega) hbw c6⟩)
          have hjI : (j : Int) < (n : Int) := by omega
          clear hx hcell hij hcs c0 c1 c2 c3 c4 c5 c6
          go_wp2_with (fail)
          refine wp_region_last (S := (fun W => W.cell? ⟨EB, 6, none⟩ = some (.slice q j c) ∧ W.cell? ⟨ga, 6, none⟩ = some (.slice (some ⟨b, off, none⟩) n cap) ∧ W.cell? ⟨b, off + j * 7, none⟩ = some (.int .i64 x.kind) ∧ W.cell? ⟨b, off + j * 7 + 1, none⟩ = some (.int .i64 x.num) ∧ W.cell? ⟨b, off + j * 7 + 2, none⟩ = some xu ∧ W.cell? ⟨b, off + j * 7 + 3, none⟩ = some (.int .i64 x.ix.2) ∧ W.cell? ⟨b, off + j * 7 + 4, none⟩ = some (.string x.arr) ∧ W.cell? ⟨b, off + j * 7 + 5, none⟩ = some xs2 ∧ W.cell? ⟨b, off + j * 7 + 6, none⟩ = some xv)) (by kernel_rfl) (HSO.out _ (Ext.refl wr).drew) (fun hHeld => ?_)
          refine tkL (some 23) 0 ?vs1 rfl (by kernel_rfl) (by kernel_rfl) (fun _ _ _ h => h) (Or.inl ⟨by rfl, ?hys1⟩) (by assumption) ?rs1
          case hys1 => intro w hSw; (try dsimp only at hSw); go_simp; first | done | with_reducible rfl
          case' rs1 => try simp only [Act.put, List.setIfInBounds_toArray, List.set_cons_zero, List.set_cons_succ]
          refine tkL (some 24) 1 ?vs2 rfl (by kernel_rfl) (by kernel_rfl) (fun _ _ _ h => h) (Or.inl ⟨by rfl, ?hys2⟩) (by assumption) ?rs2
          case hys2 => intro w hSw; (try dsimp only at hSw); go_simp; first | done | with_reducible rfl
          case' rs2 => try simp only [Act.put, List.setIfInBounds_toArray, List.set_cons_zero, List.set_cons_succ]
          refine tkL (some 25) 2 ?vs3 rfl (by kernel_rfl) (by kernel_rfl) (fun _ _ _ h => h) (Or.inl ⟨by rfl, ?hys3⟩) (by assumption) ?rs3
          case hys3 => intro w hSw; (try dsimp only at hSw); go_simp; first | done | with_reducible rfl
          case' rs3 => try simp only [Act.put, List.setIfInBounds_toArray, List.set_cons_zero, List.set_cons_succ]
          refine tkL (some 26) 3 ?vs4 rfl (by kernel_rfl) (by kernel_rfl) (fun _ _ _ h => h) (Or.inl ⟨by rfl, ?hys4⟩) (by assumption) ?rs4
          case hys4 => intro w hSw; (try dsimp only at hSw); go_simp; first | done | with_reducible rfl
          case' rs4 => try simp only [Act.put, List.setIfInBounds_toArray, List.set_cons_zero, List.set_cons_succ]
          refine tkL (some 27) 4 ?vs5 rfl (by kernel_rfl) (by kernel_rfl) (fun _ _ _ h => h) (Or.inl ⟨by rfl, ?hys5⟩) (by assumption) ?rs5
          case hys5 => intro w hSw; (try dsimp only at hSw); go_simp; first | done | with_reducible rfl
          case' rs5 => try simp only [Act.put, List.setIfInBounds_toArray, List.set_cons_zero, List.set_cons_succ]
          refine tkL (some 28) 5 ?vs6 rfl (by kernel_rfl) (by kernel_rfl) (fun _ _ _ h => h) (Or.inl ⟨by rfl, ?hys6⟩) (by assumption) ?rs6
          case hys6 => intro w hSw; (try dsimp only at hSw); go_simp; first | done | with_reducible rfl
          case' rs6 => try simp only [Act.put, List.setIfInBounds_toArray, List.set_cons_zero, List.set_cons_succ]
          refine tkL (some 29) 6 ?vs7 rfl (by kernel_rfl) (by kernel_rfl) (fun _ _ _ h => h) (Or.inl ⟨by rfl, ?hys7⟩) (by assumption) ?rs7
          case hys7 => intro w hSw; (try dsimp only at hSw); go_simp; first | done | with_reducible rfl
          case' rs7 => try simp only [Act.put, List.setIfInBounds_toArray, List.set_cons_zero, List.set_cons_succ]
          refine oneL (i := 7) rfl (by kernel_rfl) (fun K9 hK => ?_)
          (go_simp; refine (HIJ.out wr.drew (HEW.out.trans (Ext.refl wr).drew)).mono ?_; rintro e v4 ⟨⟨cs, rfl, hx4, -⟩, hE4⟩; obtain ⟨kd, nm, qa, na, ca, kk, ar, qb, nb, cb, qc, nc, cc, rfl⟩ := hx4.seven; have X4 : Ext wr v4 := (Ext.refl wr).drew.trans hE4; have hS4 := HSO.out v4 X4)
          refine hK.out _ _ hS4 (fun hHs8 => ?_)
          clear hK K9
          try simp only [Act.put, List.setIfInBounds_toArray, List.set_cons_zero, List.set_cons_succ]
          refine oneL (i := 8) rfl (by kernel_rfl) (fun K9 hK => ?_)
          go_simp
          refine hK.out _ _ (HSO.out _ (X4.trans ((Ext.refl v4).alloc _))) (fun hHs9 => ?_)
          clear hK K9
          try simp only [Act.put, List.setIfInBounds_toArray, List.set_cons_zero, List.set_cons_succ]
          refine oneL (i := 9) rfl (by kernel_rfl) (fun K9 hK => ?_)
          (have EA : Ext v4 (v4.alloc (.cells #[.int .i64 kd, .int .i64 nm, .slice qa na ca, .int .i64 kk, .string ar, .slice qb nb cb, .slice qc nc cc] 54)) := (Ext.refl v4).alloc _; have hrow4 := HRV.out.lv (X4.lv (D := fun b => b ≤ EB)); have ho := ownsRow_ext hrow4.2.2.1 EA; refine step_append_at _ rfl (.tmp 24) (.tmp 31) 52 rfl (EB + 1) 54 i0 (.agg #[.int .i64 0, .int .i64 0, .slice none 0 0, .int .i64 0, .string ⟨#[]⟩, .slice none 0 0, .slice none 0 0]) 7 112 Try.underlying52 hi hz0 hz1 hz2 rfl (by decide) (.slice q j c) j css.flatten rfl ho ⟨v4.heap.size, 0, none⟩ 1 1 [.int .i64 kd, .int .i64 nm, .slice qa na ca, .int .i64 kk, .string ar, .slice qb nb cb, .slice qc nc cc] rfl rfl (seven_cells rfl) (by intro u hu; simp only [List.mem_cons, List.not_mem_nil, or_false] at hu; rcases hu with rfl | rfl | rfl | rfl | rfl | rfl | rfl <;> rfl) (by unfold maxLen; omega) (by omega) (by have := EA.size_le; have := X4.size_le; omega) ?_; intro v' w7 hown7 hgr7 hnil7 hat7; obtain ⟨q', c', rfl⟩ := own_shapeX hown7 (by omega); have EB7 := grownBy_blk hgr7 (EA.blk (X4.blk HEB.out)) (fun e' => by have := (ho.lt EB e'.symm).1; omega); have GA7 := grownBy_blk hgr7 (EA.blk (X4.blk HGAB.out)) (fun e' => by have := (ho.lt ga e'.symm).1; omega); have cE7 := (blk7 EB7).2.2.2.2.2.2; have fE7 := blk7f EB7 6; have hS7 := HSG.out _ _ (X4.trans EA) hgr7)
          refine hK.out _ _ hS7 (fun hHs10 => ?_)
          clear hK K9
          try simp only [Act.put, List.setIfInBounds_toArray, List.set_cons_zero, List.set_cons_succ]
          refine tkL (some 33) 10 ?vs11 rfl (by kernel_rfl) (by kernel_rfl) (fun _ _ _ h => h) (Or.inl ⟨by rfl, ?hys11⟩) (by assumption) ?rs11
          case hys11 => intro w hSw; (try dsimp only at hSw); go_simp; first | done | with_reducible rfl
          case' rs11 => try simp only [Act.put, List.setIfInBounds_toArray, List.set_cons_zero, List.set_cons_succ]
          refine lastL (i := 11) rfl (by kernel_rfl) (by kernel_rfl) (fun K9 hK => ?_)
          go_simp
          refine hK.out _ _ ?_
          clear hK K9
          try simp only [Act.put, List.setIfInBounds_toArray, List.set_cons_zero, List.set_cons_succ]
          have hst := RowV.push (cs := [.int .i64 kd, .int .i64 nm, .slice qa na ca, .int .i64 kk, .string ar, .slice qb nb cb, .slice qc nc cc]) (e := x) (hrow4.lv (EA.lv)) hown7 hgr7 hat7 rfl (ElV.new (Bi := wr.heap.size) hx4 EA hwE (fun b hb => .inl (HQ.out b hb))) HGX.out
          have hset0 := grown_set w7 EB 6 (.slice q' (j + 1) c')
          have hset : Lv (fun b => b ≤ EB) w7 (w7.setCell ⟨EB, 6, none⟩ (.slice q' (j + 1) c')) := Lv.grown hset0 (fun r e _ => by have := Option.some.inj e; omega)
          have HST := Lib.hid (hst.lv hset)
          have EBX := Lib.hid (blk7_set6 (u := .slice q' (j + 1) c') EB7)
          have RB7 := grownBy_blk hgr7 (EA.blk (X4.blk HRB.out)) (fun e' => by have := (ho.lt (ga + 1) e'.symm).1; omega)
          have HRBX := Lib.hid (blk_off (g' := EB) (o' := 6) RB7 (by omega) (.slice q' (j + 1) c'))
          have HGAX := Lib.hid (blk_off (g' := EB) (o' := 6) GA7 (by omega) (.slice q' (j + 1) c'))
          have htag := own_tag ho
          have HUX := Lib.hid (((HUO.out.ext (X4.trans EA)).tag hgr7 htag (by decide)).tag hset0 (Tag.blk EB7) (by decide))
          have HSX := Lib.hid (AffsOwn.tag (AffsOwn.tag (AffsOwn.ext HSO2.out (X4.trans EA)) hgr7 htag (by decide) (by decide)) hset0 (Tag.blk EB7) (by decide) (by decide))
          have hga9 := HGA.out
          have HEX : Hid (Ext w' (w7.setCell ⟨EB, 6, none⟩ (.slice q' (j + 1) c'))) := Lib.hid (((HE2.out.trans (X4.trans EA)).grown hgr7 (fun b hb => by have := (ho.lt b hb).1; omega)).setAt (by omega) _)
          clear hga9 hst hset hset0 htag RB7 GA7 hown7 hgr7 hat7 hnil7 ho hrow4 EA EB7 cE7 fE7 hS4 hS7 hx4 X4 hE4
          go_wp2
          go_roundw
          case rel => exact ⟨j + 1, _, _, _, by omega, by go_num, by rw [HTK.out]; exact HST.out, EBX.out, HRBX.out, HGAX.out, HUX.out, HSX.out, HEX.out⟩
          case measure => simp [intOf]; omega
        · obtain rfl : j = n := by omega
          have hrv := HRV.out
          rw [List.take_of_length_le (by rw [HN.out]; exact Nat.le_refl _)] at hrv
          obtain ⟨hex, -⟩ := hrv.exs
          have HO := Lib.hid hex; have HRVV := Lib.hid hrv
          clear hrv
          obtain ⟨r0, r1, r2, r3, r4, r5, r6⟩ := blk7 HRB.out
          obtain ⟨e0, e1, e2, e3, e4, e5, e6⟩ := blk7 HEB.out
          have f0 := blk7f HRB.out 0; have f1 := blk7f HRB.out 1; have f2 := blk7f HRB.out 2; have f3 := blk7f HRB.out 3; have f4 := blk7f HRB.out 4; have f5 := blk7f HRB.out 5; have f6 := blk7f HRB.out 6
          clear hex
          go_wp2
          refine bodyPost_ret (v := .agg #[.int .i64 kind, .int .i64 num, .slice q1 nx d1, .int .i64 k, .string arr, .slice q2 ns d2, .slice q j c]) (by simp [results, Try.results105, go_sem, r0, r1, r2, r3, r4, r5, r6]) rfl ⟨⟨[.int .i64 kind, .int .i64 num, .slice q1 nx d1, .int .i64 k, .string arr, .slice q2 ns d2, .slice q j c], rfl, ?_, EB, q, c, css, by rw [show (Ex.mk kind num (xs, k) arr subs kids).kids = kids from rfl, HN.out]; rfl, ?_, by have := HGA.out; omega, by simpa using lt_of_block HEB.out⟩, ?_⟩
          · refine ExO.weak (B := ga + 2) ?_ (by have := HGA.out; omega)
            repeat (refine ExO.setOld ?_ (by simp <;> omega) _)
            exact ExO.of HUO.out ha HSO2.out (by
              obtain ⟨p', c', us', vs', e1, e2, e3, e4⟩ := HO.out
              exact ⟨p', c', us', vs', e1, ownsRow_weak e2 (by omega), e3, fun i e hi => (e4 i e hi).weak (by omega)⟩)
          · rw [show (Ex.mk kind num (xs, k) arr subs kids).kids = kids from rfl, HN.out]
            exact HRVV.out.lv (Lv.grown (sets7_grown _ _ _ _ _ _ _ _ _) (fun r e _ => by have := Option.some.inj e; omega))
          · repeat (refine Ext.setAt ?_ (by have := HGA.out; omega) _)
            exact HE2.out
end Go.Proofs.Ytccibfldadflkaa

/- The model's StmtValid. No statement is proved here. -/
namespace Go.Proofs.Ytccibfldadflkaa
open Go.RowKit

set_option maxRecDepth 100000 in
set_option maxHeartbeats 1600000 in
theorem specStmtValid_any (v : Value) (arr : ByteArray) (subs : List Aff) (e : Ex) (d : Int) (w : World) (hs : StR w v arr subs e) :
    Calls Try.prog 24 #[v, .int .i64 d] w fun r w' => r = .returned (.bool (validB arr subs e d)) ∧ Ext w w' := by
  obtain ⟨q1, d1, q2, d2, q3, d3, q4, d4, rfl, ha, hs1, he⟩ := hs.parts
  obtain ⟨u', s', v', hcs, hu2, ha2, hs2, hv2⟩ := he.parts
  simp only [List.cons.injEq, and_true, true_and] at hcs
  obtain ⟨rfl, rfl, rfl⟩ := hcs
  have HS := Lib.hid hs1; have HU2 := Lib.hid hu2; have HS2 := Lib.hid hs2; have HV2 := Lib.hid hv2; clear hs hs1 he hu2 hs2 hv2
  by_cases h0 : d < 0
  · have hb0 : decide (d < 0) = true := by simpa using h0
    have HR : Hid (validB arr subs e d = false) := Lib.hid (by unfold validB; rw [decide_eq_false (show ¬ 0 ≤ d by omega)]; rfl)
    clear h0
    go_enter Try.func24, Try.ntmps24
    go_wp2
    go_ret
    exact ⟨ret_bool HR.out.symm, (Ext.refl w).alloc _⟩
  have hb0 : decide (d < 0) = false := by simpa using h0
  by_cases h4 : 4 < d
  · have hb4 : decide (4 < d) = true := by simpa using h4
    have HR : Hid (validB arr subs e d = false) := Lib.hid (by unfold validB; rw [decide_eq_false (show ¬ d ≤ 4 by omega)]; simp)
    clear h0 h4
    go_enter Try.func24, Try.ntmps24
    go_wp2
    go_ret
    exact ⟨ret_bool HR.out.symm, (Ext.refl w).alloc _⟩
  have hb4 : decide (4 < d) = false := by simpa using h4
  have H04 := Lib.hid (And.intro h0 h4); clear h0 h4
  have EA : Hid (Ext w (w.alloc (.cells #[.string arr, .slice q1 subs.length d1, .int .i64 e.kind, .int .i64 e.num, .slice q2 e.ix.1.length d2, .int .i64 e.ix.2, .string e.arr, .slice q3 e.subs.length d3, .slice q4 e.kids.length d4] 56))) := Lib.hid ((Ext.refl w).alloc _)
  have BA : Hid ((w.alloc (.cells #[.string arr, .slice q1 subs.length d1, .int .i64 e.kind, .int .i64 e.num, .slice q2 e.ix.1.length d2, .int .i64 e.ix.2, .string e.arr, .slice q3 e.subs.length d3, .slice q4 e.kids.length d4] 56)).heap[w.heap.size]? = some (.cells #[.string arr, .slice q1 subs.length d1, .int .i64 e.kind, .int .i64 e.num, .slice q2 e.ix.1.length d2, .int .i64 e.ix.2, .string e.arr, .slice q3 e.subs.length d3, .slice q4 e.kids.length d4] 56 (0, 0))) := Lib.hid (blk_at rfl)
  cases hq1 : accB arr subs d with
  | false =>
    have HR : Hid (validB arr subs e d = false) := Lib.hid (by simp [validB, hq1])
    have HQ1 := Lib.hid hq1; clear hq1
    go_enter Try.func24, Try.ntmps24
    go_wp2_with (fail)
    refine (l3Access_any arr _ subs d _ ha (HS.out.ext EA.out)).mono ?_
    rw [HQ1.out]
    rintro r W1 ⟨rfl, hE1⟩
    have E1 := Lib.hid (EA.out.trans hE1); clear hE1
    go_wp2
    go_ret
    exact ⟨ret_bool HR.out.symm, E1.out⟩
  | true =>
    have HQ1 := Lib.hid hq1; clear hq1
    go_enter Try.func24, Try.ntmps24
    go_wp2_with (fail)
    refine (l3Access_any arr _ subs d _ ha (HS.out.ext EA.out)).mono ?_
    rw [HQ1.out]
    rintro r W1 ⟨rfl, hE1⟩
    have E1 := Lib.hid (EA.out.trans hE1); have B1 := Lib.hid (hE1.blk BA.out); clear hE1
    obtain ⟨-, -, y2, y3, y4, y5, y6, y7, y8⟩ := blk9 B1.out
    cases hq2 : shapeB 5 e d with
    | false =>
      have HR : Hid (validB arr subs e d = false) := Lib.hid (by simp [validB, hq2])
      have HQ2 := Lib.hid hq2; clear hq2
      go_wp2_with (fail)
      refine (l3Shape_any d 5 e _ _ _ W1 (by omega) (HU2.out.ext E1.out) ha2 (HS2.out.ext E1.out) (HV2.out.ext E1.out)).mono ?_
      rw [HQ2.out]
      rintro r W2 ⟨rfl, hE2⟩
      have E2 := Lib.hid (E1.out.trans hE2); clear hE2 y2 y3 y4 y5 y6 y7 y8
      go_wp2
      go_ret
      exact ⟨ret_bool HR.out.symm, E2.out⟩
    | true =>
      have HQ2 := Lib.hid hq2; clear hq2
      have hcb := countE_bd 5 e HQ2.out
      have h63 := bC_five (L := 5) (by omega)
      go_wp2_with (fail)
      refine (l3Shape_any d 5 e _ _ _ W1 (by omega) (HU2.out.ext E1.out) ha2 (HS2.out.ext E1.out) (HV2.out.ext E1.out)).mono ?_
      rw [HQ2.out]
      rintro r W2 ⟨rfl, hE2⟩
      have E2 := Lib.hid (E1.out.trans hE2); have B2 := Lib.hid (hE2.blk B1.out); clear hE2 y2 y3 y4 y5 y6 y7 y8
      obtain ⟨-, -, y2, y3, y4, y5, y6, y7, y8⟩ := blk9 B2.out
      go_wp2_with (fail)
      refine (l3Count_any d 5 e _ _ _ W2 (by omega) HQ2.out (HU2.out.ext E2.out) (HS2.out.ext E2.out) (HV2.out.ext E2.out)).mono ?_
      rintro r W3 ⟨rfl, hE3⟩
      have E3 := Lib.hid (E2.out.trans hE3); clear hE3 y2 y3 y4 y5 y6 y7 y8
      obtain ⟨C, hC⟩ : ∃ C, countE 5 e = C := ⟨_, rfl⟩
      have HR : Hid (validB arr subs e d = decide (C ≤ 12)) := Lib.hid (by
        have h1 := H04.out.1; have h2 := H04.out.2
        simp only [validB, HQ1.out, HQ2.out, hC]
        rw [decide_eq_true (show 0 ≤ d by omega), decide_eq_true (show d ≤ 4 by omega)]; simp)
      rw [hC] at hcb ⊢
      clear hC
      go_wp2
      go_ret
      exact ⟨ret_bool HR.out.symm, E3.out⟩
end Go.Proofs.Ytccibfldadflkaa
