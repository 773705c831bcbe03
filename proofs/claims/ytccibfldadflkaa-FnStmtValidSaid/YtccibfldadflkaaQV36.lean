/- The texts X5 X6, joined. No statement is proved here. -/
import Derived.Test.YtccibfldadflkaaQV40
import Derived.Test.YtccibfldadflkaaQV47
/- Copies of statements by the model, drawn statements (by x5.py). No statement is proved here. -/
namespace Go.Proofs.Ytccibfldadflkaa
open Go.RowKit

theorem blk9fz {W : World} {g : Nat} {a b c d e f h i j : Value} {t : TypeId} (hh : W.heap[g]? = some (.cells #[a, b, c, d, e, f, h, i, j] t (0, 0))) (k : Nat) : W.frozen? ⟨g, k, none⟩ = false := by
  simp [World.frozen?, hh]
theorem sets9_grown (W : World) (g : Nat) (u0 u1 u2 u3 u4 u5 u6 u7 u8 : Value) : W.grownBy (((((((((W.setCell ⟨g, 0, none⟩ u0).setCell ⟨g, 1, none⟩ u1).setCell ⟨g, 2, none⟩ u2).setCell ⟨g, 3, none⟩ u3).setCell ⟨g, 4, none⟩ u4).setCell ⟨g, 5, none⟩ u5).setCell ⟨g, 6, none⟩ u6).setCell ⟨g, 7, none⟩ u7).setCell ⟨g, 8, none⟩ u8) (some g) :=
  (grownBy_trans (grownBy_trans (grownBy_trans (grownBy_trans (grownBy_trans (grownBy_trans (grownBy_trans (grownBy_trans (grown_set W g 0 u0) (grown_set _ g 1 u1)) (grown_set _ g 2 u2)) (grown_set _ g 3 u3)) (grown_set _ g 4 u4)) (grown_set _ g 5 u5)) (grown_set _ g 6 u6)) (grown_set _ g 7 u7)) (grown_set _ g 8 u8))

set_option linter.unusedVariables false in
set_option linter.unusedSimpArgs false in
set_option maxRecDepth 100000 in
set_option maxHeartbeats 4000000 in
theorem l3Copy_any (v : Value) (arr : ByteArray) (subs : List Aff) (e : Ex) (w : World) (hs : StR w v arr subs e) (hf : FourA 8 subs) (hg : GdE e) :
    Calls Try.prog 83 #[v] w fun r w' => (∃ q d cs2 Bx, r = .returned (.agg (.string arr :: .slice q subs.length d :: cs2).toArray) ∧ AffsOwn w.heap.size w' (.slice q subs.length d) subs ∧ ExO Bx w' cs2 e ∧ TopK w.heap.size w' cs2 e ∧ w.heap.size ≤ Bx ∧ ∀ b, (Value.slice q subs.length d).ownBlock = some b → b < Bx) ∧ Ext w w' := by
  obtain ⟨q1, d1, q2, d2, q3, d3, q4, d4, rfl, ha, hs1, he⟩ := hs.parts
  obtain ⟨ns, hns⟩ : ∃ n, subs.length = n := ⟨_, rfl⟩
  rw [hns] at hs1 ⊢
  have HNS := Lib.hid hns; have HS := Lib.hid hs1; have HE := Lib.hid he; have HF := Lib.hid hf; have HG := Lib.hid hg
  clear hs hs1 he hf hg hns
  obtain ⟨ga, hga⟩ : ∃ a, w.heap.size = a := ⟨_, rfl⟩
  obtain ⟨w1, hw1⟩ : ∃ W, (w.alloc (.cells #[.string arr, .slice q1 ns d1, .int .i64 e.kind, .int .i64 e.num, .slice q2 e.ix.1.length d2, .int .i64 e.ix.2, .string e.arr, .slice q3 e.subs.length d3, .slice q4 e.kids.length d4] 56)).alloc (.cells #[.string ⟨#[]⟩, .slice none 0 0, .int .i64 0, .int .i64 0, .slice none 0 0, .int .i64 0, .string ⟨#[]⟩, .slice none 0 0, .slice none 0 0] 56) = W := ⟨_, rfl⟩
  have X01 : Ext w w1 := by rw [← hw1]; exact ((Ext.refl w).alloc _).alloc _
  have GA1 : Hid (w1.heap[ga]? = some (.cells #[.string arr, .slice q1 ns d1, .int .i64 e.kind, .int .i64 e.num, .slice q2 e.ix.1.length d2, .int .i64 e.ix.2, .string e.arr, .slice q3 e.subs.length d3, .slice q4 e.kids.length d4] 56 (0, 0))) := Lib.hid (by rw [← hw1]; exact blk_old (blk_at hga.symm))
  have RB1 : Hid (w1.heap[ga + 1]? = some (.cells #[.string ⟨#[]⟩, .slice none 0 0, .int .i64 0, .int .i64 0, .slice none 0 0, .int .i64 0, .string ⟨#[]⟩, .slice none 0 0, .slice none 0 0] 56 (0, 0))) := Lib.hid (by rw [← hw1]; exact blk_at (by simp [hga]))
  have hs1 : w1.heap.size = ga + 2 := by rw [← hw1]; simp [hga]
  have E1 := Lib.hid X01; have HS1 := Lib.hid (HS.out.ext X01); have HE1 := Lib.hid (HE.out.ext X01)
  have HGA := Lib.hid hga; have HW1 := Lib.hid hw1; have HSZ := Lib.hid hs1
  obtain ⟨a0, a1, a2, a3, a4, a5, a6, a7, a8⟩ := blk9 GA1.out
  have HSA : Hid (∀ W, Ext w1 W → W.cell? ⟨ga, 0, none⟩ = some (.string arr) ∧ W.cell? ⟨ga, 1, none⟩ = some (.slice q1 ns d1) ∧ W.cell? ⟨ga, 2, none⟩ = some (.int .i64 e.kind) ∧ W.cell? ⟨ga, 3, none⟩ = some (.int .i64 e.num) ∧ W.cell? ⟨ga, 4, none⟩ = some (.slice q2 e.ix.1.length d2) ∧ W.cell? ⟨ga, 5, none⟩ = some (.int .i64 e.ix.2) ∧ W.cell? ⟨ga, 6, none⟩ = some (.string e.arr) ∧ W.cell? ⟨ga, 7, none⟩ = some (.slice q3 e.subs.length d3) ∧ W.cell? ⟨ga, 8, none⟩ = some (.slice q4 e.kids.length d4)) := Lib.hid (fun W h => ⟨h.keep a0, h.keep a1, h.keep a2, h.keep a3, h.keep a4, h.keep a5, h.keep a6, h.keep a7, h.keep a8⟩)
  clear X01 hga hw1 hs1
  go_enter Try.func83, Try.ntmps83
  go_upto_region 1 with (fail)
  try rw [HGA.out]
  try rw [HW1.out]
  refine wp_region_last (S := (fun W => W.cell? ⟨ga, 0, none⟩ = some (.string arr) ∧ W.cell? ⟨ga, 1, none⟩ = some (.slice q1 ns d1) ∧ W.cell? ⟨ga, 2, none⟩ = some (.int .i64 e.kind) ∧ W.cell? ⟨ga, 3, none⟩ = some (.int .i64 e.num) ∧ W.cell? ⟨ga, 4, none⟩ = some (.slice q2 e.ix.1.length d2) ∧ W.cell? ⟨ga, 5, none⟩ = some (.int .i64 e.ix.2) ∧ W.cell? ⟨ga, 6, none⟩ = some (.string e.arr) ∧ W.cell? ⟨ga, 7, none⟩ = some (.slice q3 e.subs.length d3) ∧ W.cell? ⟨ga, 8, none⟩ = some (.slice q4 e.kids.length d4))) (by kernel_rfl) (HSA.out _ (Ext.refl w1).drew) (fun hHeld => ?_)
  refine tkL (some 3) 0 ?vs1 rfl (by kernel_rfl) (by kernel_rfl) (fun _ _ _ h => h) (Or.inl ⟨by rfl, ?hys1⟩) (by assumption) ?rs1
  case hys1 => intro w hSw; (try dsimp only at hSw); go_simp; first | done | with_reducible rfl
  case' rs1 => try simp only [Act.put, List.setIfInBounds_toArray, List.set_cons_zero, List.set_cons_succ]
  refine tkL (some 4) 1 ?vs2 rfl (by kernel_rfl) (by kernel_rfl) (fun _ _ _ h => h) (Or.inl ⟨by rfl, ?hys2⟩) (by assumption) ?rs2
  case hys2 => intro w hSw; (try dsimp only at hSw); go_simp; first | done | with_reducible rfl
  case' rs2 => try simp only [Act.put, List.setIfInBounds_toArray, List.set_cons_zero, List.set_cons_succ]
  refine tkL (some 6) 3 ?vs3 rfl (by kernel_rfl) (by kernel_rfl) (fun _ _ _ h => h) (Or.inl ⟨by rfl, ?hys3⟩) (by assumption) ?rs3
  case hys3 => intro w hSw; (try dsimp only at hSw); go_simp; first | done | with_reducible rfl
  case' rs3 => try simp only [Act.put, List.setIfInBounds_toArray, List.set_cons_zero, List.set_cons_succ]
  refine tkL (some 7) 4 ?vs4 rfl (by kernel_rfl) (by kernel_rfl) (fun _ _ _ h => h) (Or.inl ⟨by rfl, ?hys4⟩) (by assumption) ?rs4
  case hys4 => intro w hSw; (try dsimp only at hSw); go_simp; first | done | with_reducible rfl
  case' rs4 => try simp only [Act.put, List.setIfInBounds_toArray, List.set_cons_zero, List.set_cons_succ]
  refine oneL (i := 2) rfl (by kernel_rfl) (fun K9 hK => ?_)
  (go_simp; refine (l3CopyAccess_any arr (.slice q1 ns d1) subs _ (HS1.out.ext (Ext.refl w1).drew) (HF.out.mono (by omega))).mono ?_; rw [HNS.out]; rintro r w2 ⟨⟨qc, dc, rfl, hv2⟩, hE2⟩; have X2 : Ext w1 w2 := (Ext.refl w1).drew.trans hE2)
  refine hK.out _ _ (HSA.out _ X2) (fun hHs5 => ?_)
  clear hK K9
  try simp only [Act.put, List.setIfInBounds_toArray, List.set_cons_zero, List.set_cons_succ]
  refine oneL (i := 5) rfl (by kernel_rfl) (fun K9 hK => ?_)
  (go_simp; refine (l3CopyExpr_any HE1.out HG.out w2 X2).mono ?_; rintro r w3 ⟨⟨cs, rfl, hx3, htk⟩, hE3⟩; obtain ⟨kd, nm, qa, na, ca, kk, ar, qb, nb, cb, qk, nk, ck, rfl⟩ := hx3.seven; have X3 : Ext w1 w3 := X2.trans hE3; have RB3 := X3.blk RB1.out; have zl := lt_of_block RB3; obtain ⟨z0, z1, z2, z3, z4, z5, z6, z7, z8⟩ := blk9 RB3; have y0 := blk9fz RB3 0; have y1 := blk9fz RB3 1; have y2 := blk9fz RB3 2; have y3 := blk9fz RB3 3; have y4 := blk9fz RB3 4; have y5 := blk9fz RB3 5; have y6 := blk9fz RB3 6; have y7 := blk9fz RB3 7; have y8 := blk9fz RB3 8)
  refine hK.out _ _ (HSA.out _ X3) (fun hHs6 => ?_)
  clear hK K9
  try simp only [Act.put, List.setIfInBounds_toArray, List.set_cons_zero, List.set_cons_succ]
  refine tkL (some 9) 6 ?vs7 rfl (by kernel_rfl) (by kernel_rfl) (fun _ _ _ h => h) (Or.inl ⟨by rfl, ?hys7⟩) (by assumption) ?rs7
  case hys7 => intro w hSw; (try dsimp only at hSw); go_simp; first | done | with_reducible rfl
  case' rs7 => try simp only [Act.put, List.setIfInBounds_toArray, List.set_cons_zero, List.set_cons_succ]
  refine lastL (i := 7) rfl (by kernel_rfl) (by kernel_rfl) (fun K9 hK => ?_)
  go_simp
  refine hK.out _ _ ?_
  clear hK K9
  try simp only [Act.put, List.setIfInBounds_toArray, List.set_cons_zero, List.set_cons_succ]
  have hg9 := HGA.out; have hsz := HSZ.out
  have hs12 := X2.size_le
  have HV := Lib.hid (AffsOwn.weak (B' := ga + 2) (AffsOwn.ext hv2 hE3) (by show _ ≤ w1.heap.size; omega))
  have HX := Lib.hid hx3
  have HBX : Hid (∀ b, (Value.slice qc ns dc).ownBlock = some b → b < w2.heap.size) := Lib.hid (fun b hb => by obtain ⟨vs, ho, -⟩ := hv2; rw [HNS.out] at ho; exact (ho.lt b hb).2)
  have HT := Lib.hid htk; have HE3 := Lib.hid (E1.out.trans X3)
  clear hv2 hx3 htk hE2 hE3 X2 X3 RB3 y0 y1 y2 y3 y4 y5 y6 y7 y8
  go_wp2
  refine bodyPost_ret (v := .agg #[.string arr, .slice qc ns dc, .int .i64 kd, .int .i64 nm, .slice qa na ca, .int .i64 kk, .string ar, .slice qb nb cb, .slice qk nk ck]) (by simp [results, Try.results83, go_sem, z0, z1, z2, z3, z4, z5, z6, z7, z8]) rfl ⟨⟨qc, dc, [.int .i64 kd, .int .i64 nm, .slice qa na ca, .int .i64 kk, .string ar, .slice qb nb cb, .slice qk nk ck], w2.heap.size, rfl, ?_, ?_, ?_, by omega, HBX.out⟩, ?_⟩
  · refine AffsOwn.weak (B := ga + 2) ?_ (by omega)
    repeat (refine AffsOwn.setOld ?_ (by simp <;> omega) _)
    exact HV.out
  · repeat (refine ExO.setOld ?_ (by dsimp only; omega) _)
    exact HX.out
  · obtain ⟨EB, q, c, css, h1, h2, h3, h4⟩ := HT.out
    exact ⟨EB, q, c, css, h1, h2.lv (Lv.grown (sets9_grown _ _ _ _ _ _ _ _ _ _ _) (fun r e _ => by have := Option.some.inj e; omega)), by omega, by simpa using h4⟩
  · repeat (refine Ext.setAt ?_ (by omega) _)
    exact HE3.out
/-- A statement as it is drawn, in memory of the call's own. -/
def DSt (B : Nat) (w : World) (v : Value) : Prop := ∃ arr q c subs cs e, v = .agg (.string arr :: .slice q subs.length c :: cs).toArray ∧ arr.size ≤ 2 ∧ FourA 8 subs ∧ AffsOwn B w (.slice q subs.length c) subs ∧ ExO B w cs e ∧ GdE e
theorem DSt.str {B : Nat} {w : World} {v : Value} (h : DSt B w v) : ∃ arr subs e, StR w v arr subs e ∧ FourA 8 subs ∧ GdE e := by
  obtain ⟨arr, q, c, subs, cs, e, rfl, h1, h2, h3, h4, h5⟩ := h
  exact ⟨arr, subs, e, ⟨_, cs, rfl, by omega, AffsOwn.at h3, h4.at⟩, h2, h5⟩
theorem exo_dr {B g : Nat} {w w' : World} {cs : List Value} {e : Ex} (h : ExO B w cs e) (hD : Dr w g w') (hB : g < B) : ExO B w' cs e := h.map (fun h => row_dr h hD hB) (fun h => affs_dr h hD hB) (fun h => row_dr h hD hB)
theorem DSt.dr {B g : Nat} {w w' : World} {v : Value} (h : DSt B w v) (hD : Dr w g w') (hB : g < B) : DSt B w' v := by
  obtain ⟨arr, q, c, subs, cs, e, rfl, h1, h2, h3, h4, h5⟩ := h
  exact ⟨arr, q, c, subs, cs, e, rfl, h1, h2, affs_dr h3 hD hB, exo_dr h4 hD hB, h5⟩
theorem DSt.ext {B : Nat} {w w' : World} {v : Value} (h : DSt B w v) (hE : Ext w w') : DSt B w' v := by
  obtain ⟨arr, q, c, subs, cs, e, rfl, h1, h2, h3, h4, h5⟩ := h
  exact ⟨arr, q, c, subs, cs, e, rfl, h1, h2, AffsOwn.ext h3 hE, h4.ext hE, h5⟩
theorem DSt.nine {B : Nat} {w : World} {v : Value} (h : DSt B w v) : ∃ a q1 n1 c1 k1 k2 q2 n2 c2 k3 b q3 n3 c3 q4 n4 c4, v = .agg #[.string a, .slice q1 n1 c1, .int .i64 k1, .int .i64 k2, .slice q2 n2 c2, .int .i64 k3, .string b, .slice q3 n3 c3, .slice q4 n4 c4] := by
  obtain ⟨arr, q, c, subs, cs, e, rfl, h1, h2, h3, h4, h5⟩ := h
  obtain ⟨kd, nm, qa, na, ca, kk, ar, qb, nb, cb, qk, nk, ck, rfl⟩ := h4.seven
  exact ⟨_, _, _, _, _, _, _, _, _, _, _, _, _, _, _, _, _, rfl⟩
theorem one_sideX {B a : Nat} {w : World} {u0 : Value} {k : Int} {xs : List Int} (h : w.heap[a]? = some (.cells #[u0, .int .i64 k] 36 (0, 0))) (hB : B ≤ a) (hi : IntsOwn B w u0 xs) : AffsOwn B w (.slice (some ⟨a, 0, none⟩) 1 1) [(xs, k)] :=
  ⟨[u0, .int .i64 k], ⟨rfl, .inr ⟨a, 1, _, rfl, hB, h, Nat.le_refl _, by unfold maxLen; omega, rfl, rfl⟩⟩, fun i x hx => by
    match i, hx with
    | 0, hx => simp at hx; subst hx; exact ⟨u0, _, rfl, rfl, hi, rfl⟩⟩
theorem cstV_3 : ∀ L, L ≤ 3 → cstV L ≤ 126
  | 0, _ => by decide
  | 1, _ => by decide
  | 2, _ => by decide
  | 3, _ => by decide
  | n + 4, h => by omega
end Go.Proofs.Ytccibfldadflkaa

/- Drawn statements: spec.l3Stmt. No statement is proved here. -/
namespace Go.Proofs.Ytccibfldadflkaa
open Go.RowKit

set_option linter.unusedVariables false in
set_option linter.unusedSimpArgs false in
set_option maxRecDepth 100000 in
set_option maxHeartbeats 4000000 in
theorem l3Stmt_any (W : World) (g K d : Nat) (w : World) (hr : Rd W g K w) (hK : K ≤ 89000) (hd : d ≤ 4) :
    Calls Try.prog 56 #[.pointer (some ⟨g, 0, none⟩), .int .i64 d] w fun e w' => (∃ v, e = .returned v ∧ DSt w.heap.size w' v) ∧ Rd W g (K + 139) w' ∧ Dr w g w' := by
  have hlg := hr.lt
  obtain ⟨wz, hwz⟩ : ∃ W, w.alloc (.cells #[.string ⟨#[]⟩, .slice none 0 0, .int .i64 0, .int .i64 0, .slice none 0 0, .int .i64 0, .string ⟨#[]⟩, .slice none 0 0, .slice none 0 0] 56) = W := ⟨_, rfl⟩
  have EZ : Ext w wz := by rw [← hwz]; exact (Ext.refl w).alloc _
  have RZ : Hid (wz.heap[w.heap.size]? = some (.cells #[.string ⟨#[]⟩, .slice none 0 0, .int .i64 0, .int .i64 0, .slice none 0 0, .int .i64 0, .string ⟨#[]⟩, .slice none 0 0, .slice none 0 0] 56 (0, 0))) := Lib.hid (by rw [← hwz]; exact blk_at rfl)
  have hsz : wz.heap.size = w.heap.size + 1 := by rw [← hwz]; simp
  have HZ := Lib.hid (hr.ext EZ); have DZ := Lib.hid ((Dr.refl w g).ext EZ); have HWZ := Lib.hid hwz; have HSZ := Lib.hid hsz
  clear hwz EZ hr hsz
  go_enter Try.func56, Try.ntmps56
  go_wp2_with (fail)
  try rw [HWZ.out]
  refine (l3Elem_any W g K d wz HZ.out (by omega) hd).mono ?_
  rintro e w1 ⟨⟨arr, q, n, c, subs, rfl, hsz, hsl, hf, ho⟩, h4, h5⟩
  have hz1 := HSZ.out
  have H1 := Lib.hid h4; have R1 := Lib.hid (blk_dr RZ.out h5 (by omega)); have D1 := Lib.hid (DZ.out.trans h5); have O1 := Lib.hid (AffsOwn.weak (B' := w.heap.size + 1) ho (by omega)); have HF := Lib.hid hf; have HSL := Lib.hid hsl
  have hs1 : w.heap.size + 1 ≤ w1.heap.size := by have := h5.size; omega
  have O1a := Lib.hid (AffsOwn.ext O1.out ((Ext.refl w1).alloc (.cells #[.int .i64 2, .int .i64 3, .int .i64 1, .int .i64 2] 3)))
  clear h4 h5 ho hf HZ RZ DZ hsl hz1 O1
  go_wp2_with (fail)
  refine (num_any W g (K + 12) w1.heap.size 4 [2, 3, 1, 2] _ (H1.out.ext ((Ext.refl w1).alloc _)) (by omega) rfl (by omega) (by omega) (blk_at rfl) (by omega)).mono ?_
  rintro e w2 ⟨⟨x, rfl, hx⟩, h4, h5⟩
  obtain ⟨L, hL, rfl⟩ : ∃ L : Nat, L ≤ 3 ∧ x = (L : Int) := by
    simp only [List.mem_cons, List.not_mem_nil, or_false] at hx
    rcases hx with h | h | h | h
    · exact ⟨2, by omega, h⟩
    · exact ⟨3, by omega, h⟩
    · exact ⟨1, by omega, h⟩
    · exact ⟨2, by omega, h⟩
  have hc3 := cstV_3 L hL
  have H2 := Lib.hid h4; have R2 := Lib.hid (blk_dr (blk_old R1.out) h5 (by omega)); have D2 := Lib.hid ((D1.out.alloc _).trans h5); have O2 := Lib.hid (affs_dr O1a.out h5 (by omega))
  have hs2 : w.heap.size + 1 ≤ w2.heap.size := by have := h5.size; simp at this; omega
  clear h4 h5 H1 R1 D1 O1a hx
  go_wp2_with (fail)
  refine (l3Value_any L (by omega) W g (K + 13) d w2 H2.out (by omega) hd).mono ?_
  rintro e w3 ⟨⟨cs, ex, rfl, hx3, hgd⟩, h4, h5⟩
  obtain ⟨kd, nm, qa, na, ca, kk, ar, qb, nb, cb, qk, nk, ck, rfl⟩ := hx3.seven
  obtain ⟨SB, hSB⟩ : ∃ a, w3.heap.size = a := ⟨_, rfl⟩
  obtain ⟨w4, hw4⟩ : ∃ W, w3.alloc (.cells #[.string arr, .slice q n c, .int .i64 kd, .int .i64 nm, .slice qa na ca, .int .i64 kk, .string ar, .slice qb nb cb, .slice qk nk ck] 56) = W := ⟨_, rfl⟩
  have E34 : Ext w3 w4 := by rw [← hw4]; exact (Ext.refl w3).alloc _
  have hd3 := D2.out.trans h5
  have hDS : DSt (w.heap.size + 1) w4 (.agg #[.string arr, .slice q n c, .int .i64 kd, .int .i64 nm, .slice qa na ca, .int .i64 kk, .string ar, .slice qb nb cb, .slice qk nk ck]) :=
    ⟨arr, q, c, subs, _, ex, by rw [HSL.out], by omega, HF.out.mono (by omega), by rw [HSL.out]; exact AffsOwn.ext (affs_dr O2.out h5 (by omega)) E34, (hx3.weak (by omega)).ext E34, hgd⟩
  have B4 : Hid (w4.heap[SB]? = some (.cells #[.string arr, .slice q n c, .int .i64 kd, .int .i64 nm, .slice qa na ca, .int .i64 kk, .string ar, .slice qb nb cb, .slice qk nk ck] 56 (0, 0))) := Lib.hid (by rw [← hw4]; exact blk_at hSB.symm)
  have H4 := Lib.hid ((h4.mono (K' := K + 139) (by omega)).ext E34); have R4 := Lib.hid (E34.blk (blk_dr R2.out h5 (by omega))); have D4 := Lib.hid (hd3.ext E34); have HDS := Lib.hid hDS
  have hsB : w.heap.size + 1 ≤ SB := by have := h5.size; omega
  have HW4 := Lib.hid hw4; have HSB := Lib.hid hSB
  clear h4 h5 H2 R2 D2 O2 hx3 hgd E34 hd3 hDS hw4 hSB
  obtain ⟨arr', subs', e', hst, hf8, hge⟩ := HDS.out.str
  have HST := Lib.hid hst
  clear hst
  go_wp2_with (fail)
  try rw [HSB.out]
  try rw [HW4.out]
  obtain ⟨s0, s1, s2, s3, s4, s5, s6, s7, s8⟩ := blk9 B4.out
  go_wp2_with (fail)
  refine (specStmtValid_any _ arr' subs' e' d w4 HST.out).mono ?_
  obtain ⟨vb, hvb⟩ : ∃ b, validB arr' subs' e' d = b := ⟨_, rfl⟩
  rw [hvb]
  rintro e w5 ⟨rfl, hE5⟩
  have H5 := Lib.hid (H4.out.ext hE5); have R5 := Lib.hid (hE5.blk R4.out); have D5 := Lib.hid (D4.out.ext hE5); have DS5 := Lib.hid (HDS.out.ext hE5); have B5 := Lib.hid (hE5.blk B4.out)
  clear hE5 hvb s0 s1 s2 s3 s4 s5 s6 s7 s8 H4 R4 D4 HDS B4 HST
  cases vb with
  | true =>
    obtain ⟨s0, s1, s2, s3, s4, s5, s6, s7, s8⟩ := blk9 B5.out
    obtain ⟨r0, r1, r2, r3, r4, r5, r6, r7, r8⟩ := blk9 R5.out
    have f0 := blk9fz R5.out 0; have f1 := blk9fz R5.out 1; have f2 := blk9fz R5.out 2; have f3 := blk9fz R5.out 3; have f4 := blk9fz R5.out 4; have f5 := blk9fz R5.out 5; have f6 := blk9fz R5.out 6; have f7 := blk9fz R5.out 7; have f8 := blk9fz R5.out 8
    go_wp2
    refine bodyPost_ret (v := .agg #[.string arr, .slice q n c, .int .i64 kd, .int .i64 nm, .slice qa na ca, .int .i64 kk, .string ar, .slice qb nb cb, .slice qk nk ck]) (by simp [results, Try.results56, go_sem, r0, r1, r2, r3, r4, r5, r6, r7, r8]) rfl ⟨⟨_, rfl, ?_⟩, ?_, ?_⟩
    · obtain ⟨arr2, q2, c2, subs2, cs2, e2, he2, h1, h2, h3, h4, h5⟩ := DS5.out
      refine ⟨arr2, q2, c2, subs2, cs2, e2, he2, h1, h2, ?_, ?_, h5⟩
      · refine AffsOwn.weak (B := w.heap.size + 1) ?_ (by omega)
        repeat (refine AffsOwn.setOld ?_ (by simp) _)
        exact h3
      · refine ExO.weak (B := w.heap.size + 1) ?_ (by omega)
        repeat (refine ExO.setOld ?_ (by simp) _)
        exact h4
    · repeat (refine Rd.set ?_ (by omega) _)
      exact H5.out
    · repeat (refine Dr.set ?_ (by omega) _)
      exact D5.out
  | false =>
    go_wp2_with (fail)
    refine (l1Zero_any w5).mono ?_
    rintro e w6 ⟨p6, c6, rfl, hv6, hE6⟩
    obtain ⟨w7, hw7⟩ : ∃ W, w6.alloc (.cells #[.slice p6 4 c6, .int .i64 0] 36) = W := ⟨_, rfl⟩
    have E67 : Ext w6 w7 := by rw [← hw7]; exact (Ext.refl w6).alloc _
    have hs5 : w.heap.size + 1 ≤ w5.heap.size := by have := lt_of_block R5.out; omega
    have A7 := one_sideX (B := w.heap.size + 1) (show w7.heap[w6.heap.size]? = some (.cells #[.slice p6 4 c6, .int .i64 0] 36 (0, 0)) by rw [← hw7]; exact blk_at rfl) (by have := hE6.size_le; omega) ((hv6.ext E67).weak hs5)
    have H7 := Lib.hid (H5.out.ext (hE6.trans E67)); have R7 := Lib.hid ((hE6.trans E67).blk R5.out); have D7 := Lib.hid (D5.out.ext (hE6.trans E67)); have HA7 := Lib.hid A7
    have HW7 := Lib.hid hw7
    clear hv6 hE6 E67 A7 H5 R5 D5 DS5 B5 hw7
    obtain ⟨r0, r1, r2, r3, r4, r5, r6, r7, r8⟩ := blk9 R7.out
    have f0 := blk9fz R7.out 0; have f1 := blk9fz R7.out 1; have f2 := blk9fz R7.out 2; have f3 := blk9fz R7.out 3; have f4 := blk9fz R7.out 4; have f5 := blk9fz R7.out 5; have f6 := blk9fz R7.out 6; have f7 := blk9fz R7.out 7; have f8 := blk9fz R7.out 8
    have hw6 := HW7.out
    go_wp2
    refine bodyPost_ret (v := .agg #[.string ⟨#[65]⟩, .slice (some ⟨w6.heap.size, 0, none⟩) 1 1, .int .i64 1, .int .i64 1, .slice none 0 0, .int .i64 0, .string ⟨#[]⟩, .slice none 0 0, .slice none 0 0]) (by simp [results, Try.results56, go_sem, r0, r1, r2, r3, r4, r5, r6, r7, r8]) rfl ⟨⟨_, rfl, ⟨#[65]⟩, _, 1, [([0, 0, 0, 0], 0)], [.int .i64 1, .int .i64 1, .slice none 0 0, .int .i64 0, .string ⟨#[]⟩, .slice none 0 0, .slice none 0 0], .mk 1 1 ([], 0) ⟨#[]⟩ [] [], rfl, by decide, ⟨by simp, fun a ha => by simp at ha; rw [ha]; rfl⟩, ?_, ?_, GdE.leaf (.inl rfl) (FourA.nil8 8)⟩, ?_, ?_⟩
    · refine AffsOwn.weak (B := w.heap.size + 1) ?_ (by omega)
      repeat (refine AffsOwn.setOld ?_ (by simp) _)
      exact HA7.out
    · exact ExO.of (IntsOwn.nil _ _) (by decide) (AffsOwn.nil _ _) (ExsO.nil _ _)
    · repeat (refine Rd.set ?_ (by omega) _)
      exact H7.out
    · repeat (refine Dr.set ?_ (by omega) _)
      exact D7.out
end Go.Proofs.Ytccibfldadflkaa
