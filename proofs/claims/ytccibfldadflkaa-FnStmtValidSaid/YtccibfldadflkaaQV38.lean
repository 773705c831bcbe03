/- The texts X7 X8, joined. No statement is proved here. -/
import Derived.Test.YtccibfldadflkaaQV36
import Derived.Test.YtccibfldadflkaaQV21
import Derived.Test.YtccibfldadflkaaQV35
/- Copies of statements, sometimes made invalid: spec.l3Mutate (by x7.py). No statement is proved here. -/
namespace Go.Proofs.Ytccibfldadflkaa
open Go.RowKit

theorem exo_tag {B : Nat} {T : TypeId} {w w' : World} {cs : List Value} {e : Ex} {row : Option Nat} (h : ExO B w cs e) (hg : w.grownBy w' row) (ht : Tag w row T) (h1 : T ≠ 3) (h2 : T ≠ 36) (h3 : T ≠ 54) : ExO B w' cs e :=
  h.map (fun h => IntsOwn.tag h hg ht h1) (fun h => AffsOwn.tag h hg ht h1 h2) (fun h => row_tag h hg ht h3)
theorem blk9_set {W : World} {g : Nat} {a b c d e f h i j u : Value} {t : TypeId} (hh : W.heap[g]? = some (.cells #[a, b, c, d, e, f, h, i, j] t (0, 0))) :
    (W.setCell ⟨g, 0, none⟩ u).heap[g]? = some (.cells #[u, b, c, d, e, f, h, i, j] t (0, 0)) ∧ (W.setCell ⟨g, 1, none⟩ u).heap[g]? = some (.cells #[a, u, c, d, e, f, h, i, j] t (0, 0)) ∧ (W.setCell ⟨g, 2, none⟩ u).heap[g]? = some (.cells #[a, b, u, d, e, f, h, i, j] t (0, 0)) ∧
    (W.setCell ⟨g, 3, none⟩ u).heap[g]? = some (.cells #[a, b, c, u, e, f, h, i, j] t (0, 0)) ∧ (W.setCell ⟨g, 8, none⟩ u).heap[g]? = some (.cells #[a, b, c, d, e, f, h, i, u] t (0, 0)) :=
  ⟨by simpa using heap_setCell_same W g 0 _ t u hh, by simpa using heap_setCell_same W g 1 _ t u hh, by simpa using heap_setCell_same W g 2 _ t u hh, by simpa using heap_setCell_same W g 3 _ t u hh, by simpa using heap_setCell_same W g 8 _ t u hh⟩
theorem four_cells {L : Nat} {w : World} {u0 u1 u2 u3 : Value} {t : TypeId} (hL : L = w.heap.size) : ∀ j u, [u0, u1, u2, u3][j]? = some u → (w.alloc (.cells #[u0, u1, u2, u3] t)).cell? ((⟨L, 0, none⟩ : Addr).add j) = some u := by
  subst hL
  intro q u hq
  match q, hq with
  | 0, hq => simp at hq; subst hq; simp [Addr.add]
  | 1, hq => simp at hq; subst hq; simp [Addr.add, go_sem]
  | 2, hq => simp at hq; subst hq; simp [Addr.add, go_sem]
  | 3, hq => simp at hq; subst hq; simp [Addr.add, go_sem]
theorem ExO.own {B : Nat} {w : World} {cs : List Value} {e : Ex} (h : ExO B w cs e) : ∃ u s v, cs = [.int .i64 e.kind, .int .i64 e.num, u, .int .i64 e.ix.2, .string e.arr, s, v] ∧ IntsOwn B w u e.ix.1 ∧ e.arr.size ≤ 9223372036854775807 ∧ AffsOwn B w s e.subs ∧ ExsO B w v e.kids := by
  cases h with
  | mk kind num k u s xs arr subs p cap kids us vs hu ha hs ho hv hk => exact ⟨u, s, _, rfl, hu, ha, hs, p, cap, us, vs, rfl, ho, hv, hk⟩
/-- A statement in memory of the call's own. -/
def DSw (B : Nat) (w : World) (v : Value) : Prop := ∃ arr q n c subs cs e, v = .agg (.string arr :: .slice q n c :: cs).toArray ∧ arr.size ≤ 9223372036854775807 ∧ AffsOwn B w (.slice q n c) subs ∧ ExO B w cs e
theorem DSw.str {B : Nat} {w : World} {v : Value} (h : DSw B w v) : ∃ arr subs e, StR w v arr subs e := by
  obtain ⟨arr, q, n, c, subs, cs, e, rfl, h1, h2, h3⟩ := h
  exact ⟨arr, subs, e, _, cs, rfl, h1, AffsOwn.at h2, h3.at⟩
theorem DSw.dr {B g : Nat} {w w' : World} {v : Value} (h : DSw B w v) (hD : Dr w g w') (hB : g < B) : DSw B w' v := by
  obtain ⟨arr, q, n, c, subs, cs, e, rfl, h1, h2, h3⟩ := h
  exact ⟨arr, q, n, c, subs, cs, e, rfl, h1, affs_dr h2 hD hB, exo_dr h3 hD hB⟩
theorem DSw.ext {B : Nat} {w w' : World} {v : Value} (h : DSw B w v) (hE : Ext w w') : DSw B w' v := by
  obtain ⟨arr, q, n, c, subs, cs, e, rfl, h1, h2, h3⟩ := h
  exact ⟨arr, q, n, c, subs, cs, e, rfl, h1, AffsOwn.ext h2 hE, h3.ext hE⟩
theorem DSw.setOld {B : Nat} {w : World} {v : Value} (h : DSw B w v) {p : Addr} (hp : p.block < B) (u : Value) : DSw B (w.setCell p u) v := by
  obtain ⟨arr, q, n, c, subs, cs, e, rfl, h1, h2, h3⟩ := h
  exact ⟨arr, q, n, c, subs, cs, e, rfl, h1, AffsOwn.setOld h2 hp u, h3.setOld hp u⟩
theorem DSw.nine {B : Nat} {w : World} {v : Value} (h : DSw B w v) : ∃ a q1 n1 c1 k1 k2 q2 n2 c2 k3 b q3 n3 c3 q4 n4 c4, v = .agg #[.string a, .slice q1 n1 c1, .int .i64 k1, .int .i64 k2, .slice q2 n2 c2, .int .i64 k3, .string b, .slice q3 n3 c3, .slice q4 n4 c4] := by
  obtain ⟨arr, q, n, c, subs, cs, e, rfl, h1, h2, h3⟩ := h
  obtain ⟨kd, nm, qa, na, ca, kk, ar, qb, nb, cb, qk, nk, ck, rfl⟩ := h3.seven
  exact ⟨_, _, _, _, _, _, _, _, _, _, _, _, _, _, _, _, _, rfl⟩
theorem ExO.kind2 {B : Nat} {w : World} {a : Int} {cs : List Value} {e : Ex} (h : ExO B w (.int .i64 a :: cs) e) (x : Int) : ExO B w (.int .i64 x :: cs) (.mk x e.num e.ix e.arr e.subs e.kids) := by
  cases h with
  | mk kind num k u s xs arr subs p cap kids us vs hu ha hs ho hv hk => exact .mk x num k u s xs arr subs p cap kids us vs hu ha hs ho hv hk
theorem ExO.num2 {B : Nat} {w : World} {v : Value} {a : Int} {cs : List Value} {e : Ex} (h : ExO B w (v :: .int .i64 a :: cs) e) (x : Int) : ExO B w (v :: .int .i64 x :: cs) (.mk e.kind x e.ix e.arr e.subs e.kids) := by
  cases h with
  | mk kind num k u s xs arr subs p cap kids us vs hu ha hs ho hv hk => exact .mk kind x k u s xs arr subs p cap kids us vs hu ha hs ho hv hk
theorem GdE.kids8 {e : Ex} (h : GdE e) : e.kids.length ≤ 8 := by cases h with | mk _ _ _ _ _ _ _ _ _ hl _ => exact hl

set_option linter.unusedVariables false in
set_option linter.unusedSimpArgs false in
set_option maxRecDepth 100000 in
set_option maxHeartbeats 8000000 in
theorem l3Mutate_any (W : World) (g K : Nat) (v : Value) (arr : ByteArray) (subs : List Aff) (e : Ex) (w : World) (hr : Rd W g K w) (hK : K ≤ 89000) (hs : StR w v arr subs e) (hf : FourA 8 subs) (hg : GdE e) :
    Calls Try.prog 55 #[.pointer (some ⟨g, 0, none⟩), v] w fun r w' => (∃ v', r = .returned v' ∧ DSw w.heap.size w' v') ∧ Rd W g (K + 2) w' ∧ Dr w g w' := by
  obtain ⟨i0, hi, hz0, hz1, hz2⟩ := info_parts infoExpr
  obtain ⟨i1, hi1, hy0, hy1, hy2⟩ := info_parts infoAff2
  have hlg := hr.lt
  have HS := Lib.hid hs; have HK8 := Lib.hid hg.kids8
  obtain ⟨q1, d1, q2, d2, q3, d3, q4, d4, rfl, ha, -, -⟩ := hs.parts
  clear hs
  obtain ⟨ga, hga⟩ : ∃ a, w.heap.size = a := ⟨_, rfl⟩
  obtain ⟨w1, hw1⟩ : ∃ W, (w.alloc (.cells #[.string arr, .slice q1 subs.length d1, .int .i64 e.kind, .int .i64 e.num, .slice q2 e.ix.1.length d2, .int .i64 e.ix.2, .string e.arr, .slice q3 e.subs.length d3, .slice q4 e.kids.length d4] 56)).alloc (.cells #[.string ⟨#[]⟩, .slice none 0 0, .int .i64 0, .int .i64 0, .slice none 0 0, .int .i64 0, .string ⟨#[]⟩, .slice none 0 0, .slice none 0 0] 56) = W := ⟨_, rfl⟩
  have X01 : Ext w w1 := by rw [← hw1]; exact ((Ext.refl w).alloc _).alloc _
  have GA1 : Hid (w1.heap[ga]? = some (.cells #[.string arr, .slice q1 subs.length d1, .int .i64 e.kind, .int .i64 e.num, .slice q2 e.ix.1.length d2, .int .i64 e.ix.2, .string e.arr, .slice q3 e.subs.length d3, .slice q4 e.kids.length d4] 56 (0, 0))) := Lib.hid (by rw [← hw1]; exact blk_old (blk_at hga.symm))
  have RB1 : Hid (w1.heap[ga + 1]? = some (.cells #[.string ⟨#[]⟩, .slice none 0 0, .int .i64 0, .int .i64 0, .slice none 0 0, .int .i64 0, .string ⟨#[]⟩, .slice none 0 0, .slice none 0 0] 56 (0, 0))) := Lib.hid (by rw [← hw1]; exact blk_at (by simp [hga]))
  have hsz1 : w1.heap.size = ga + 2 := by rw [← hw1]; simp [hga]
  have H1 := Lib.hid (hr.ext X01); have D1 := Lib.hid ((Dr.refl w g).ext X01); have HS1 := Lib.hid (HS.out.ext X01)
  have HGA := Lib.hid hga; have HW1 := Lib.hid hw1; have HSZ := Lib.hid hsz1
  rw [hga] at hlg
  have hgw : w.heap.size ≤ ga := by omega
  clear X01 hga hw1 hsz1 hr
  go_enter Try.func55, Try.ntmps55
  go_wp2_with (fail)
  try rw [HGA.out]
  try rw [HW1.out]
  obtain ⟨a0, a1, a2, a3, a4, a5, a6, a7, a8⟩ := blk9 GA1.out
  go_wp2_with (fail)
  refine (l3Copy_any _ arr subs e w1 HS1.out hf hg).mono ?_
  rintro r9 w3 ⟨⟨q, d, cs, Bx, rfl, ho, hx, htk, hBx, hqb⟩, hE3⟩
  obtain ⟨kd, nm, qa, na, ca, kk, ar, qb, nb, cb, qk, nk, ck, rfl⟩ := hx.seven
  obtain ⟨ns, hns⟩ : ∃ n, subs.length = n := ⟨_, rfl⟩
  rw [hns] at ho hqb ⊢
  rw [HSZ.out] at ho htk hBx
  have hns8 : ns ≤ 8 := by rw [← hns]; exact hf.1
  obtain ⟨OB, hOB⟩ : ∃ a, w3.heap.size = a := ⟨_, rfl⟩
  obtain ⟨w4, hw4⟩ : ∃ W, w3.alloc (.cells #[.string arr, .slice q ns d, .int .i64 kd, .int .i64 nm, .slice qa na ca, .int .i64 kk, .string ar, .slice qb nb cb, .slice qk nk ck] 56) = W := ⟨_, rfl⟩
  have E34 : Ext w3 w4 := by rw [← hw4]; exact (Ext.refl w3).alloc _
  have B4 : Hid (w4.heap[OB]? = some (.cells #[.string arr, .slice q ns d, .int .i64 kd, .int .i64 nm, .slice qa na ca, .int .i64 kk, .string ar, .slice qb nb cb, .slice qk nk ck] 56 (0, 0))) := Lib.hid (by rw [← hw4]; exact blk_at hOB.symm)
  have hEO : ∃ EB q c css, ([.int .i64 kd, .int .i64 nm, .slice qa na ca, .int .i64 kk, .string ar, .slice qb nb cb, .slice qk nk ck] : List Value)[6]? = some (.slice q e.kids.length c) ∧ RowV EB w3 q e.kids.length c css e.kids ∧ ga + 2 ≤ EB ∧ EB < w3.heap.size := htk
  have H4 := Lib.hid (H1.out.ext (hE3.trans E34)); have D4 := Lib.hid (D1.out.ext (hE3.trans E34)); have R4 := Lib.hid ((hE3.trans E34).blk RB1.out); have O4 := Lib.hid (AffsOwn.ext ho E34); have X4 := Lib.hid (hx.ext E34); have HTK := Lib.hid htk; have HX3 := Lib.hid E34
  have HQB := Lib.hid hqb; have HNS := Lib.hid hns; have HBL := Lib.hid hBx; have HW4 := Lib.hid hw4; have HOB := Lib.hid hOB
  have hOBl : ga + 2 ≤ OB := by have := hE3.size_le; have := HSZ.out; omega
  have HARS : Hid (arr.size ≤ 9223372036854775807) := Lib.hid ha
  clear hE3 ho hx htk hBx hqb hns hw4 E34 a0 a1 a2 a3 a4 a5 a6 a7 a8 H1 D1 RB1 GA1 HS1 hEO hOB
  go_wp2_with (fail)
  try rw [HOB.out]
  try rw [HW4.out]
  refine (pick_any W g K 40 w4 H4.out (by omega) (by omega)).mono ?_
  rintro e9 w5 ⟨⟨r, rfl, -⟩, h4, h5⟩
  have H5 := Lib.hid h4; have BO := Lib.hid (blk_dr B4.out h5 (by omega)); have BR := Lib.hid (blk_dr R4.out h5 (by omega)); have D5 := Lib.hid (D4.out.trans h5); have OS := Lib.hid (affs_dr O4.out h5 (by omega)); have OX := Lib.hid (exo_dr X4.out h5 (by have := HBL.out; omega))
  have OT : Hid (∃ EB q c css, ([.int .i64 kd, .int .i64 nm, .slice qa na ca, .int .i64 kk, .string ar, .slice qb nb cb, .slice qk nk ck] : List Value)[6]? = some (.slice q e.kids.length c) ∧ RowV EB w5 q e.kids.length c css e.kids ∧ ga + 2 ≤ EB ∧ EB < w5.heap.size) := Lib.hid (by
    obtain ⟨EB, q, c, css, h1, h2, h3, h4⟩ := HTK.out
    exact ⟨EB, q, c, css, h1, (h2.lv HX3.out.lv).lv (Dr.lvG h5 (by omega)), h3, by have := HX3.out.size_le; have := h5.size; omega⟩)
  have HEO : Hid True := Lib.hid trivial
  have hha := HARS.out
  have hO5 : OB < w5.heap.size := lt_of_block BO.out
  have hw5g : g < w5.heap.size := by omega
  clear h4 h5 H4 B4 R4 D4 O4 X4 HTK HX3
  by_cases hr0 : r = 0
  · subst hr0
    go_wp2_with (fail)
    refine (pickText_any W g (K + 1) w5.heap.size 4 [⟨#[69]⟩, ⟨#[]⟩, ⟨#[65, 66]⟩, ⟨#[97]⟩] _ (H5.out.ext ((Ext.refl w5).alloc _)) (by omega) rfl (by omega) (by omega) (blk_at rfl) (by omega)).mono ?_
    rintro e9 wq ⟨⟨x, rfl, hx⟩, h4, h5⟩
    have Hq := Lib.hid h4; have Bq := Lib.hid (blk_dr (blk_old (o := .cells #[.string ⟨#[69]⟩, .string ⟨#[]⟩, .string ⟨#[65, 66]⟩, .string ⟨#[97]⟩] 9) BO.out) h5 (by omega)); have Rq := Lib.hid (blk_dr (blk_old (o := .cells #[.string ⟨#[69]⟩, .string ⟨#[]⟩, .string ⟨#[65, 66]⟩, .string ⟨#[97]⟩] 9) BR.out) h5 (by omega)); have Dq := Lib.hid ((D5.out.alloc _).trans h5); have Oq := Lib.hid (affs_dr (AffsOwn.ext OS.out ((Ext.refl w5).alloc (.cells #[.string ⟨#[69]⟩, .string ⟨#[]⟩, .string ⟨#[65, 66]⟩, .string ⟨#[97]⟩] 9))) h5 (by omega)); have Xq := Lib.hid (exo_dr (OX.out.ext ((Ext.refl w5).alloc (.cells #[.string ⟨#[69]⟩, .string ⟨#[]⟩, .string ⟨#[65, 66]⟩, .string ⟨#[97]⟩] 9))) h5 (by have := HBL.out; omega))
    clear h4 h5 H5 BO BR D5 OS OX OT
    have hx2 : x.size ≤ 2 := by simp only [List.mem_cons, List.not_mem_nil, or_false] at hx; rcases hx with h | h | h | h <;> rw [h] <;> decide
    clear hx
    have hset := grown_set wq OB 0 (.string x)
    have htO : Tag wq (some OB) 56 := Tag.blk Bq.out
    have OA := Lib.hid (AffsOwn.tag Oq.out hset htO (by decide) (by decide))
    have OE := Lib.hid (exo_tag Xq.out hset htO (by decide) (by decide) (by decide))
    have BX := Lib.hid (blk9_set (u := .string x) Bq.out).1
    have RX := Lib.hid (blk_off (g' := OB) (o' := 0) Rq.out (by omega) (.string x))
    have HX := Lib.hid (Hq.out.set (b := OB) (o := 0) (by omega) (.string x))
    have DX := Lib.hid (Dq.out.set (j := OB) (o := 0) (by omega) (.string x))
    obtain ⟨c0, c1, c2, c3, c4, c5, c6, c7, c8⟩ := blk9 Bq.out
    have w0 := blk9fz Bq.out 0
    clear hset htO
    go_upto_region 13 with (fail)
    clear c0 c1 c2 c3 c4 c5 c6 c7 c8 w0
    obtain ⟨s0, s1, s2, s3, s4, s5, s6, s7, s8⟩ := blk9 BX.out
    obtain ⟨r0, r1, r2, r3, r4, r5, r6, r7, r8⟩ := blk9 RX.out
    have f0 := blk9fz RX.out 0; have f1 := blk9fz RX.out 1; have f2 := blk9fz RX.out 2; have f3 := blk9fz RX.out 3; have f4 := blk9fz RX.out 4; have f5 := blk9fz RX.out 5; have f6 := blk9fz RX.out 6; have f7 := blk9fz RX.out 7; have f8 := blk9fz RX.out 8
    have hBl := HBL.out
    go_wp2
    refine bodyPost_ret (v := .agg #[.string x, .slice q ns d, .int .i64 kd, .int .i64 nm, .slice qa na ca, .int .i64 kk, .string ar, .slice qb nb cb, .slice qk nk ck]) (by simp [results, Try.results55, go_sem, r0, r1, r2, r3, r4, r5, r6, r7, r8]) rfl ⟨⟨_, rfl, x, _, _, _, subs, [.int .i64 kd, .int .i64 nm, .slice qa na ca, .int .i64 kk, .string ar, .slice qb nb cb, .slice qk nk ck], e, rfl, by omega, AffsOwn.weak (B := ga + 2) ?_ (by omega), ExO.weak (B := Bx) ?_ (by omega)⟩, ?_, ?_⟩
    · iterate 9 (refine AffsOwn.setOld ?_ (by dsimp only; omega) _)
      exact OA.out
    · iterate 9 (refine ExO.setOld ?_ (by dsimp only; omega) _)
      exact OE.out
    · refine Rd.mono (K := K + 2) ?_ (by omega)
      iterate 9 (refine Rd.set ?_ (by omega) _)
      exact HX.out
    · iterate 9 (refine Dr.set ?_ (by omega) _)
      exact DX.out
  · have hb0 : ((r : Int) == 0) = false := by simp; omega
    by_cases hr1 : r = 1
    · subst hr1
      clear hr0 hb0
      go_wp2_with (fail)
      refine wp_region_last (S := (fun W => W.cell? ⟨OB, 1, none⟩ = some (.slice q ns d))) (by kernel_rfl) (show w5.drew.cell? ⟨OB, 1, none⟩ = _ from (blk9 BO.out).2.1) (fun hHeld => ?_)
      refine tkL (some 19) 0 ?vs1 rfl (by kernel_rfl) (by kernel_rfl) (fun _ _ _ h => h) (Or.inl ⟨by rfl, ?hys1⟩) (by assumption) ?rs1
      case hys1 => intro w hSw; (try dsimp only at hSw); go_simp; first | done | with_reducible rfl
      case' rs1 => try simp only [Act.put, List.setIfInBounds_toArray, List.set_cons_zero, List.set_cons_succ]
      refine tkL (some 20) 1 ?vs2 rfl (by kernel_rfl) (by kernel_rfl) (fun _ _ _ h => h) (Or.inl ⟨by rfl, ?hys2⟩) (by assumption) ?rs2
      case hys2 => intro w hSw; (try dsimp only at hSw); go_simp; first | done | with_reducible rfl
      case' rs2 => try simp only [Act.put, List.setIfInBounds_toArray, List.set_cons_zero, List.set_cons_succ]
      refine tkL (some 21) 2 ?vs3 rfl (by kernel_rfl) (by kernel_rfl) (fun _ _ _ h => h) (Or.inl ⟨by rfl, ?hys3⟩) (by assumption) ?rs3
      case hys3 => intro w hSw; (try dsimp only at hSw); go_simp; first | done | with_reducible rfl
      case' rs3 => try simp only [Act.put, List.setIfInBounds_toArray, List.set_cons_zero, List.set_cons_succ]
      refine oneL (i := 3) rfl (by kernel_rfl) (fun K9 hK => ?_)
      (go_simp; refine (l1Var_any 3 w5.drew (by omega) (by omega)).mono ?_; rintro e v3 ⟨pa, cpa, rfl, hv3, hE3⟩; have X3 : Ext w5 v3 := (Ext.refl w5).drew.trans hE3)
      refine hK.out _ _ (X3.keep (blk9 BO.out).2.1) (fun hHs4 => ?_)
      clear hK K9
      try simp only [Act.put, List.setIfInBounds_toArray, List.set_cons_zero, List.set_cons_succ]
      refine oneL (i := 4) rfl (by kernel_rfl) (fun K9 hK => ?_)
      (go_simp; refine (l1Zero_any v3).mono ?_; rintro e v4 ⟨pb, cpb, rfl, hv4, hE4⟩; have X4 : Ext w5 v4 := X3.trans hE4)
      refine hK.out _ _ (X4.keep (blk9 BO.out).2.1) (fun hHs5 => ?_)
      clear hK K9
      try simp only [Act.put, List.setIfInBounds_toArray, List.set_cons_zero, List.set_cons_succ]
      refine oneL (i := 5) rfl (by kernel_rfl) (fun K9 hK => ?_)
      go_simp
      refine hK.out _ _ ((X4.alloc _).keep (blk9 BO.out).2.1) (fun hHs6 => ?_)
      clear hK K9
      try simp only [Act.put, List.setIfInBounds_toArray, List.set_cons_zero, List.set_cons_succ]
      refine oneL (i := 6) rfl (by kernel_rfl) (fun K9 hK => ?_)
      (have EA : Ext v4 (v4.alloc (.cells #[.slice pa 4 cpa, .int .i64 0, .slice pb 4 cpb, .int .i64 0] 36)) := (Ext.refl v4).alloc _; have hVS := AffsOwn.ext OS.out (X4.trans EA); obtain ⟨vs, ho, he9⟩ := hVS; rw [HNS.out] at ho; refine step_append_at _ rfl (.tmp 21) (.tmp 24) 49 rfl (ga + 2) 36 i1 (.agg #[.slice none 0 0, .int .i64 0]) 2 32 underSliceAff hi1 hy0 hy1 hy2 rfl (by decide) (.slice q ns d) ns vs rfl ho ⟨v4.heap.size, 0, none⟩ 2 2 [.slice pa 4 cpa, .int .i64 0, .slice pb 4 cpb, .int .i64 0] rfl rfl (four_cells rfl) (by intro u hu; simp only [List.mem_cons, List.not_mem_nil, or_false] at hu; rcases hu with rfl | rfl | rfl | rfl <;> rfl) (by unfold maxLen; omega) (by omega) (by have := (X4.trans EA).size_le; omega) ?_; intro v' w7 hown7 hgr7 hnil7 hat7; obtain ⟨q', c', rfl⟩ := own_shapeX hown7 (by omega); have htag := own_tag ho; have OB7 := blk_tag ((X4.trans EA).blk BO.out) hgr7 htag (by decide); have cO7 := (blk9 OB7).2.1; have fO7 := blk9fz OB7 1)
      refine hK.out _ _ cO7 (fun hHs7 => ?_)
      clear hK K9
      try simp only [Act.put, List.setIfInBounds_toArray, List.set_cons_zero, List.set_cons_succ]
      refine tkL (some 26) 7 ?vs8 rfl (by kernel_rfl) (by kernel_rfl) (fun _ _ _ h => h) (Or.inl ⟨by rfl, ?hys8⟩) (by assumption) ?rs8
      case hys8 => intro w hSw; (try dsimp only at hSw); go_simp; first | done | with_reducible rfl
      case' rs8 => try simp only [Act.put, List.setIfInBounds_toArray, List.set_cons_zero, List.set_cons_succ]
      refine tkL (some 27) 8 ?vs9 rfl (by kernel_rfl) (by kernel_rfl) (fun _ _ _ h => h) (Or.inl ⟨by rfl, ?hys9⟩) (by assumption) ?rs9
      case hys9 => intro w hSw; (try dsimp only at hSw); go_simp; first | done | with_reducible rfl
      case' rs9 => try simp only [Act.put, List.setIfInBounds_toArray, List.set_cons_zero, List.set_cons_succ]
      refine lastL (i := 9) rfl (by kernel_rfl) (by kernel_rfl) (fun K9 hK => ?_)
      go_simp
      refine hK.out _ _ ?_
      clear hK K9
      try simp only [Act.put, List.setIfInBounds_toArray, List.set_cons_zero, List.set_cons_succ]
      have hz5 := X3.size_le
      have XA := X4.trans EA
      have hob : ∀ b, (Value.slice q ns d).ownBlock = some b → ga + 2 ≤ b := fun b hb => (ho.lt b hb).1
      have hsub : AffsOwn (ga + 2) w7 (.slice q' (ns + 2) c') (subs ++ [(unitL 3, 0), ([0, 0, 0, 0], 0)]) := PairsOwn.app (R := AffO) (fun h a b => AffO.grow h a b) HNS.out rfl he9 ho.1 (fun i y hy => by
        match i, hy with
        | 0, hy => simp at hy; subst hy; exact ⟨_, _, rfl, rfl, (IntsOwn.weak hv3 (by show _ ≤ w5.heap.size; omega)).ext (hE4.trans EA), rfl⟩
        | 1, hy => simp at hy; subst hy; exact ⟨_, _, rfl, rfl, (IntsOwn.weak hv4 (by omega)).ext EA, rfl⟩) hown7 hgr7 htag
      have hset := grown_set w7 OB 1 (.slice q' (ns + 2) c')
      have htO : Tag w7 (some OB) 56 := Tag.blk OB7
      have HSUB := Lib.hid (AffsOwn.tag hsub hset htO (by decide) (by decide))
      have HEX := Lib.hid (exo_tag ((OX.out.ext XA).lvB (Lv.grown (D := fun b => (Value.slice q ns d).ownBlock = some b) hgr7 (fun r e _ => e)) (fun b hb e => by have := HQB.out b e; omega)) hset htO (by decide) (by decide) (by decide))
      have BX := Lib.hid (blk9_set (u := .slice q' (ns + 2) c') OB7).2.1
      have RX := Lib.hid (blk_off (g' := OB) (o' := 1) (blk_tag (XA.blk BR.out) hgr7 htag (by decide)) (by omega) (.slice q' (ns + 2) c'))
      have HX := Lib.hid (((H5.out.ext XA).beside hgr7 (fun j hj => by have := hob j hj; omega)).set (b := OB) (o := 1) (by omega) (.slice q' (ns + 2) c') |>.mono (show K + 1 ≤ K + 2 by omega))
      have DX := Lib.hid (((D5.out.ext XA).fresh hgr7 (fun j hj => by have := hob j hj; omega)).set (j := OB) (o := 1) (by omega) (.slice q' (ns + 2) c'))
      clear hz5 XA hob hsub hset htO hown7 hgr7 hnil7 hat7 htag OB7 cO7 fO7 ho he9 EA X4 X3 hv3 hv4 hE3 hE4
      obtain ⟨s0, s1, s2, s3, s4, s5, s6, s7, s8⟩ := blk9 BX.out
      obtain ⟨r0, r1, r2, r3, r4, r5, r6, r7, r8⟩ := blk9 RX.out
      have f0 := blk9fz RX.out 0; have f1 := blk9fz RX.out 1; have f2 := blk9fz RX.out 2; have f3 := blk9fz RX.out 3; have f4 := blk9fz RX.out 4; have f5 := blk9fz RX.out 5; have f6 := blk9fz RX.out 6; have f7 := blk9fz RX.out 7; have f8 := blk9fz RX.out 8
      have hBl := HBL.out
      go_wp2
      refine bodyPost_ret (v := .agg #[.string arr, (.slice q' (ns + 2) c'), .int .i64 kd, .int .i64 nm, .slice qa na ca, .int .i64 kk, .string ar, .slice qb nb cb, .slice qk nk ck]) (by simp [results, Try.results55, go_sem, r0, r1, r2, r3, r4, r5, r6, r7, r8]) rfl ⟨⟨_, rfl, arr, _, _, _, (subs ++ [(unitL 3, 0), ([0, 0, 0, 0], 0)]), [.int .i64 kd, .int .i64 nm, .slice qa na ca, .int .i64 kk, .string ar, .slice qb nb cb, .slice qk nk ck], e, rfl, by omega, AffsOwn.weak (B := ga + 2) ?_ (by omega), ExO.weak (B := Bx) ?_ (by omega)⟩, ?_, ?_⟩
      · iterate 9 (refine AffsOwn.setOld ?_ (by dsimp only; omega) _)
        exact (by simpa [HNS.out] using HSUB.out)
      · iterate 9 (refine ExO.setOld ?_ (by dsimp only; omega) _)
        exact HEX.out
      · refine Rd.mono (K := K + 2) ?_ (by omega)
        iterate 9 (refine Rd.set ?_ (by omega) _)
        exact HX.out
      · iterate 9 (refine Dr.set ?_ (by omega) _)
        exact DX.out
    · have hb1 : ((r : Int) == 1) = false := by simp; omega
      by_cases hr2 : r = 2
      · subst hr2
        clear hr0 hb0 hr1 hb1
        go_wp2_with (fail)
        refine (num_any W g (K + 1) w5.heap.size 5 [0, 7, 1, 4, 2] _ (H5.out.ext ((Ext.refl w5).alloc _)) (by omega) rfl (by omega) (by omega) (blk_at rfl) (by omega)).mono ?_
        rintro e9 wq ⟨⟨x, rfl, hx⟩, h4, h5⟩
        have Hq := Lib.hid h4; have Bq := Lib.hid (blk_dr (blk_old (o := .cells #[.int .i64 0, .int .i64 7, .int .i64 1, .int .i64 4, .int .i64 2] 3) BO.out) h5 (by omega)); have Rq := Lib.hid (blk_dr (blk_old (o := .cells #[.int .i64 0, .int .i64 7, .int .i64 1, .int .i64 4, .int .i64 2] 3) BR.out) h5 (by omega)); have Dq := Lib.hid ((D5.out.alloc _).trans h5); have Oq := Lib.hid (affs_dr (AffsOwn.ext OS.out ((Ext.refl w5).alloc (.cells #[.int .i64 0, .int .i64 7, .int .i64 1, .int .i64 4, .int .i64 2] 3))) h5 (by omega)); have Xq := Lib.hid (exo_dr (OX.out.ext ((Ext.refl w5).alloc (.cells #[.int .i64 0, .int .i64 7, .int .i64 1, .int .i64 4, .int .i64 2] 3))) h5 (by have := HBL.out; omega))
        clear h4 h5 H5 BO BR D5 OS OX OT
        clear hx
        have Xq2 := Lib.hid (ExO.kind2 Xq.out x)
        have hset := grown_set wq OB 2 (.int .i64 x)
        have htO : Tag wq (some OB) 56 := Tag.blk Bq.out
        have OA := Lib.hid (AffsOwn.tag Oq.out hset htO (by decide) (by decide))
        have OE := Lib.hid (exo_tag Xq2.out hset htO (by decide) (by decide) (by decide))
        have BX := Lib.hid (blk9_set (u := .int .i64 x) Bq.out).2.2.1
        have RX := Lib.hid (blk_off (g' := OB) (o' := 2) Rq.out (by omega) (.int .i64 x))
        have HX := Lib.hid (Hq.out.set (b := OB) (o := 2) (by omega) (.int .i64 x))
        have DX := Lib.hid (Dq.out.set (j := OB) (o := 2) (by omega) (.int .i64 x))
        obtain ⟨c0, c1, c2, c3, c4, c5, c6, c7, c8⟩ := blk9 Bq.out
        have w0 := blk9fz Bq.out 2
        clear hset htO
        go_upto_region 13 with (fail)
        clear c0 c1 c2 c3 c4 c5 c6 c7 c8 w0
        obtain ⟨s0, s1, s2, s3, s4, s5, s6, s7, s8⟩ := blk9 BX.out
        obtain ⟨r0, r1, r2, r3, r4, r5, r6, r7, r8⟩ := blk9 RX.out
        have f0 := blk9fz RX.out 0; have f1 := blk9fz RX.out 1; have f2 := blk9fz RX.out 2; have f3 := blk9fz RX.out 3; have f4 := blk9fz RX.out 4; have f5 := blk9fz RX.out 5; have f6 := blk9fz RX.out 6; have f7 := blk9fz RX.out 7; have f8 := blk9fz RX.out 8
        have hBl := HBL.out
        go_wp2
        refine bodyPost_ret (v := .agg #[.string arr, .slice q ns d, .int .i64 x, .int .i64 nm, .slice qa na ca, .int .i64 kk, .string ar, .slice qb nb cb, .slice qk nk ck]) (by simp [results, Try.results55, go_sem, r0, r1, r2, r3, r4, r5, r6, r7, r8]) rfl ⟨⟨_, rfl, arr, _, _, _, subs, [.int .i64 x, .int .i64 nm, .slice qa na ca, .int .i64 kk, .string ar, .slice qb nb cb, .slice qk nk ck], (.mk x e.num e.ix e.arr e.subs e.kids), rfl, by omega, AffsOwn.weak (B := ga + 2) ?_ (by omega), ExO.weak (B := Bx) ?_ (by omega)⟩, ?_, ?_⟩
        · iterate 9 (refine AffsOwn.setOld ?_ (by dsimp only; omega) _)
          exact OA.out
        · iterate 9 (refine ExO.setOld ?_ (by dsimp only; omega) _)
          exact OE.out
        · refine Rd.mono (K := K + 2) ?_ (by omega)
          iterate 9 (refine Rd.set ?_ (by omega) _)
          exact HX.out
        · iterate 9 (refine Dr.set ?_ (by omega) _)
          exact DX.out
      · have hb2 : ((r : Int) == 2) = false := by simp; omega
        by_cases hr3 : r = 3
        · subst hr3
          clear hr0 hb0 hr1 hb1 hr2 hb2
          go_wp2_with (fail)
          refine (num_any W g (K + 1) w5.heap.size 3 [100, -1, 1] _ (H5.out.ext ((Ext.refl w5).alloc _)) (by omega) rfl (by omega) (by omega) (blk_at rfl) (by omega)).mono ?_
          rintro e9 wq ⟨⟨x, rfl, hx⟩, h4, h5⟩
          have Hq := Lib.hid h4; have Bq := Lib.hid (blk_dr (blk_old (o := .cells #[.int .i64 100, .int .i64 (-1), .int .i64 1] 3) BO.out) h5 (by omega)); have Rq := Lib.hid (blk_dr (blk_old (o := .cells #[.int .i64 100, .int .i64 (-1), .int .i64 1] 3) BR.out) h5 (by omega)); have Dq := Lib.hid ((D5.out.alloc _).trans h5); have Oq := Lib.hid (affs_dr (AffsOwn.ext OS.out ((Ext.refl w5).alloc (.cells #[.int .i64 100, .int .i64 (-1), .int .i64 1] 3))) h5 (by omega)); have Xq := Lib.hid (exo_dr (OX.out.ext ((Ext.refl w5).alloc (.cells #[.int .i64 100, .int .i64 (-1), .int .i64 1] 3))) h5 (by have := HBL.out; omega))
          clear h4 h5 H5 BO BR D5 OS OX OT
          clear hx
          have Xq2 := Lib.hid (ExO.num2 Xq.out x)
          have hset := grown_set wq OB 3 (.int .i64 x)
          have htO : Tag wq (some OB) 56 := Tag.blk Bq.out
          have OA := Lib.hid (AffsOwn.tag Oq.out hset htO (by decide) (by decide))
          have OE := Lib.hid (exo_tag Xq2.out hset htO (by decide) (by decide) (by decide))
          have BX := Lib.hid (blk9_set (u := .int .i64 x) Bq.out).2.2.2.1
          have RX := Lib.hid (blk_off (g' := OB) (o' := 3) Rq.out (by omega) (.int .i64 x))
          have HX := Lib.hid (Hq.out.set (b := OB) (o := 3) (by omega) (.int .i64 x))
          have DX := Lib.hid (Dq.out.set (j := OB) (o := 3) (by omega) (.int .i64 x))
          obtain ⟨c0, c1, c2, c3, c4, c5, c6, c7, c8⟩ := blk9 Bq.out
          have w0 := blk9fz Bq.out 3
          clear hset htO
          go_upto_region 13 with (fail)
          clear c0 c1 c2 c3 c4 c5 c6 c7 c8 w0
          obtain ⟨s0, s1, s2, s3, s4, s5, s6, s7, s8⟩ := blk9 BX.out
          obtain ⟨r0, r1, r2, r3, r4, r5, r6, r7, r8⟩ := blk9 RX.out
          have f0 := blk9fz RX.out 0; have f1 := blk9fz RX.out 1; have f2 := blk9fz RX.out 2; have f3 := blk9fz RX.out 3; have f4 := blk9fz RX.out 4; have f5 := blk9fz RX.out 5; have f6 := blk9fz RX.out 6; have f7 := blk9fz RX.out 7; have f8 := blk9fz RX.out 8
          have hBl := HBL.out
          go_wp2
          refine bodyPost_ret (v := .agg #[.string arr, .slice q ns d, .int .i64 kd, .int .i64 x, .slice qa na ca, .int .i64 kk, .string ar, .slice qb nb cb, .slice qk nk ck]) (by simp [results, Try.results55, go_sem, r0, r1, r2, r3, r4, r5, r6, r7, r8]) rfl ⟨⟨_, rfl, arr, _, _, _, subs, [.int .i64 kd, .int .i64 x, .slice qa na ca, .int .i64 kk, .string ar, .slice qb nb cb, .slice qk nk ck], (.mk e.kind x e.ix e.arr e.subs e.kids), rfl, by omega, AffsOwn.weak (B := ga + 2) ?_ (by omega), ExO.weak (B := Bx) ?_ (by omega)⟩, ?_, ?_⟩
          · iterate 9 (refine AffsOwn.setOld ?_ (by dsimp only; omega) _)
            exact OA.out
          · iterate 9 (refine ExO.setOld ?_ (by dsimp only; omega) _)
            exact OE.out
          · refine Rd.mono (K := K + 2) ?_ (by omega)
            iterate 9 (refine Rd.set ?_ (by omega) _)
            exact HX.out
          · iterate 9 (refine Dr.set ?_ (by omega) _)
            exact DX.out
        · have hb3 : ((r : Int) == 3) = false := by simp; omega
          by_cases hr4 : r = 4
          · subst hr4
            clear hr0 hb0 hr1 hb1 hr2 hb2 hr3 hb3
            obtain ⟨EB, qk', ck', css, he6, hrv, hEB2, hEB3⟩ := OT.out
            have he7 : qk' = qk ∧ e.kids.length = nk ∧ ck' = ck := by simp at he6; exact ⟨he6.1.symm, he6.2.1.symm, he6.2.2.symm⟩
            obtain ⟨rfl, hkl, rfl⟩ := he7
            rw [hkl] at hrv
            have hk8 : nk ≤ 8 := by rw [← hkl]; exact HK8.out
            obtain ⟨u9, s9, v9, hcs9, hU9, har9, hS9, -⟩ := OX.out.own
            have EA : Ext w5 (w5.alloc (.cells #[.int .i64 1, .int .i64 0, .slice none 0 0, .int .i64 0, .string ⟨#[]⟩, .slice none 0 0, .slice none 0 0] 54)) := (Ext.refl w5).alloc _
            have HRV := Lib.hid (hrv.lv (EA.lv (D := fun b => b ≤ EB))); have HHO := Lib.hid (ownsRow_ext hrv.2.2.1 EA); have HU9 := Lib.hid hU9; have HS9 := Lib.hid hS9; have HKL := Lib.hid hkl; have HCS := Lib.hid hcs9; have HAR := Lib.hid har9
            have HQX : Hid (∀ b, (Value.slice qk' nk ck').ownBlock = some b → b < w5.heap.size) := Lib.hid (fun b hb => (hrv.2.2.1.lt b hb).2)
            obtain ⟨c0, c1, c2, c3, c4, c5, c6, c7, c8⟩ := blk9 BO.out
            have hsz5 : EB + 1 ≤ w5.heap.size := hEB3
            have hOB5 := lt_of_block BO.out
            clear he6 hrv hU9 hS9 hkl hcs9 har9 EA
            go_wp2_with (at_builtin; refine wpList_append_own_at _ rfl (.tmp 46) (.tmp 48) 52 rfl (EB + 1) 54 i0 (.agg #[.int .i64 0, .int .i64 0, .slice none 0 0, .int .i64 0, .string ⟨#[]⟩, .slice none 0 0, .slice none 0 0]) 7 112 Try.underlying52 hi hz0 hz1 hz2 rfl (by decide) (.slice qk' nk ck') nk css.flatten rfl HHO.out ⟨w5.heap.size, 0, none⟩ 1 1 [.int .i64 1, .int .i64 0, .slice none 0 0, .int .i64 0, .string ⟨#[]⟩, .slice none 0 0, .slice none 0 0] rfl rfl ?c1 ?c2 ?c3 ?c4 ?c5 ?_)
            case c1 => exact seven_cells rfl
            case c2 => intro u hu; simp only [List.mem_cons, List.not_mem_nil, or_false] at hu; rcases hu with rfl | rfl | rfl | rfl | rfl | rfl | rfl <;> rfl
            case c3 => unfold maxLen; omega
            case c4 => omega
            case c5 => simp; omega
            intro v' w7 hown7 hgr7 _ hat7
            obtain ⟨q', c', rfl⟩ := own_shapeX hown7 (by omega)
            have EA : Ext w5 (w5.alloc (.cells #[.int .i64 1, .int .i64 0, .slice none 0 0, .int .i64 0, .string ⟨#[]⟩, .slice none 0 0, .slice none 0 0] 54)) := (Ext.refl w5).alloc _
            have htag := own_tag HHO.out
            have hob : ∀ b, (Value.slice qk' nk ck').ownBlock = some b → EB + 1 ≤ b := fun b hb => (HHO.out.lt b hb).1
            have hx0 : ∀ (Bi : Nat) (wi : World), ExO Bi wi [.int .i64 1, .int .i64 0, .slice none 0 0, .int .i64 0, .string ⟨#[]⟩, .slice none 0 0, .slice none 0 0] (.mk 1 0 ([], 0) ⟨#[]⟩ [] []) := fun Bi wi => ExO.of (IntsOwn.nil _ _) (by decide) (AffsOwn.nil _ _) (ExsO.nil _ _)
            have hst := RowV.push (cs := [.int .i64 1, .int .i64 0, .slice none 0 0, .int .i64 0, .string ⟨#[]⟩, .slice none 0 0, .slice none 0 0]) (e := .mk 1 0 ([], 0) ⟨#[]⟩ [] []) HRV.out hown7 hgr7 (by rw [World.size_alloc]; exact hat7) rfl (ElV.new (Bi := w5.heap.size) (hx0 _ w5) EA hsz5 (fun b hb => .inl (HQX.out b hb))) (GdE.leaf (.inl rfl) (FourA.nil8 8))
            have OB7 := blk_tag (EA.blk BO.out) hgr7 htag (by decide)
            have hset := grown_set w7 OB 8 (.slice q' (nk + 1) c')
            have htO : Tag w7 (some OB) 56 := Tag.blk OB7
            have hexs := (hst.lv (EB := EB) (Lv.refl _ w7)).exs.1
            have HNE : Hid (ExO (ga + 2) w7 [.int .i64 e.kind, .int .i64 e.num, u9, .int .i64 e.ix.2, .string e.arr, s9, .slice q' (nk + 1) c'] (.mk e.kind e.num e.ix e.arr e.subs (e.kids ++ [.mk 1 0 ([], 0) ⟨#[]⟩ [] []]))) := Lib.hid (ExO.of (xs := e.ix.1) (IntsOwn.weak ((HU9.out.ext EA).tag hgr7 htag (by decide)) (by have := HBL.out; omega)) HAR.out (AffsOwn.weak (AffsOwn.tag (AffsOwn.ext HS9.out EA) hgr7 htag (by decide) (by decide)) (by have := HBL.out; omega)) (by
              obtain ⟨p', c1', us', vs', e1, e2, e3, e4⟩ := hexs
              exact ⟨p', c1', us', vs', e1, ownsRow_weak e2 (by omega), e3, fun i e hi => (e4 i e hi).weak (by omega)⟩))
            have OA := Lib.hid (AffsOwn.tag (AffsOwn.tag (AffsOwn.ext OS.out EA) hgr7 htag (by decide) (by decide)) hset htO (by decide) (by decide))
            have OE := Lib.hid (exo_tag HNE.out hset htO (by decide) (by decide) (by decide))
            have BX := Lib.hid (blk9_set (u := .slice q' (nk + 1) c') OB7).2.2.2.2
            have RX := Lib.hid (blk_off (g' := OB) (o' := 8) (blk_tag (EA.blk BR.out) hgr7 htag (by decide)) (by omega) (.slice q' (nk + 1) c'))
            have HX := Lib.hid (((H5.out.ext EA).beside hgr7 (fun j hj => by have := hob j hj; omega)).set (b := OB) (o := 8) (by omega) (.slice q' (nk + 1) c') |>.mono (show K + 1 ≤ K + 2 by omega))
            have DX := Lib.hid (((D5.out.ext EA).fresh hgr7 (fun j hj => by have := hob j hj; omega)).set (j := OB) (o := 8) (by omega) (.slice q' (nk + 1) c'))
            have cO7 := (blk9 OB7).2.2.2.2.2.2.2.2; have fO7 := blk9fz OB7 8
            have hcsE := HCS.out
            simp only [List.cons.injEq, and_true] at hcsE
            obtain ⟨h1, h2, h3, h4, h5, h6, -⟩ := hcsE
            rw [← h1, ← h2, ← h3, ← h4, ← h5, ← h6] at OE
            clear hown7 hgr7 hat7 htag hob hx0 hst hset htO hexs HNE HHO HRV OB7 EA c0 c1 c2 c3 c4 c5 c6 c7 c8 h1 h2 h3 h4 h5 h6 HCS
            obtain ⟨s0, s1, s2, s3, s4, s5, s6, s7, s8⟩ := blk9 BX.out
            obtain ⟨r0, r1, r2, r3, r4, r5, r6, r7, r8⟩ := blk9 RX.out
            have f0 := blk9fz RX.out 0; have f1 := blk9fz RX.out 1; have f2 := blk9fz RX.out 2; have f3 := blk9fz RX.out 3; have f4 := blk9fz RX.out 4; have f5 := blk9fz RX.out 5; have f6 := blk9fz RX.out 6; have f7 := blk9fz RX.out 7; have f8 := blk9fz RX.out 8
            have hBl := HBL.out
            go_wp2
            refine bodyPost_ret (v := .agg #[.string arr, .slice q ns d, .int .i64 kd, .int .i64 nm, .slice qa na ca, .int .i64 kk, .string ar, .slice qb nb cb, (.slice q' (nk + 1) c')]) (by simp [results, Try.results55, go_sem, r0, r1, r2, r3, r4, r5, r6, r7, r8]) rfl ⟨⟨_, rfl, arr, _, _, _, subs, [.int .i64 kd, .int .i64 nm, .slice qa na ca, .int .i64 kk, .string ar, .slice qb nb cb, (.slice q' (nk + 1) c')], (.mk e.kind e.num e.ix e.arr e.subs (e.kids ++ [.mk 1 0 ([], 0) ⟨#[]⟩ [] []])), rfl, by omega, AffsOwn.weak (B := ga + 2) ?_ (by omega), ExO.weak (B := ga + 2) ?_ (by omega)⟩, ?_, ?_⟩
            · iterate 9 (refine AffsOwn.setOld ?_ (by dsimp only; omega) _)
              exact OA.out
            · iterate 9 (refine ExO.setOld ?_ (by dsimp only; omega) _)
              exact OE.out
            · refine Rd.mono (K := K + 2) ?_ (by omega)
              iterate 9 (refine Rd.set ?_ (by omega) _)
              exact HX.out
            · iterate 9 (refine Dr.set ?_ (by omega) _)
              exact DX.out
          · have hb4 : ((r : Int) == 4) = false := by simp; omega
            clear hr0 hr1 hr2 hr3 hr4
            have BX := BO; have RX := BR; have HX := H5; have DX := D5
            clear BO BR H5 D5
            obtain ⟨s0, s1, s2, s3, s4, s5, s6, s7, s8⟩ := blk9 BX.out
            obtain ⟨r0, r1, r2, r3, r4, r5, r6, r7, r8⟩ := blk9 RX.out
            have f0 := blk9fz RX.out 0; have f1 := blk9fz RX.out 1; have f2 := blk9fz RX.out 2; have f3 := blk9fz RX.out 3; have f4 := blk9fz RX.out 4; have f5 := blk9fz RX.out 5; have f6 := blk9fz RX.out 6; have f7 := blk9fz RX.out 7; have f8 := blk9fz RX.out 8
            have hBl := HBL.out
            go_wp2
            refine bodyPost_ret (v := .agg #[.string arr, .slice q ns d, .int .i64 kd, .int .i64 nm, .slice qa na ca, .int .i64 kk, .string ar, .slice qb nb cb, .slice qk nk ck]) (by simp [results, Try.results55, go_sem, r0, r1, r2, r3, r4, r5, r6, r7, r8]) rfl ⟨⟨_, rfl, arr, _, _, _, subs, [.int .i64 kd, .int .i64 nm, .slice qa na ca, .int .i64 kk, .string ar, .slice qb nb cb, .slice qk nk ck], e, rfl, by omega, AffsOwn.weak (B := ga + 2) ?_ (by omega), ExO.weak (B := Bx) ?_ (by omega)⟩, ?_, ?_⟩
            · iterate 9 (refine AffsOwn.setOld ?_ (by dsimp only; omega) _)
              exact OS.out
            · iterate 9 (refine ExO.setOld ?_ (by dsimp only; omega) _)
              exact OX.out
            · refine Rd.mono (K := K + 1) ?_ (by omega)
              iterate 9 (refine Rd.set ?_ (by omega) _)
              exact HX.out
            · iterate 9 (refine Dr.set ?_ (by omega) _)
              exact DX.out
end Go.Proofs.Ytccibfldadflkaa

/- Draws: the arguments of StmtValid. No statement is proved here. -/
namespace Go.Proofs.Ytccibfldadflkaa
open Go.RowKit

set_option linter.unusedVariables false in
set_option linter.unusedSimpArgs false in
set_option maxRecDepth 100000 in
set_option maxHeartbeats 4000000 in
theorem DrawStmtValid_any (p : Option Addr) (n c : Nat) (w : World) (hs : BytesAt w p n c) (hlt : ∀ b off, 0 < n → p = some ⟨b, off, none⟩ → b < w.heap.size) :
    Calls Try.prog 22 #[.slice p n c] w fun e w' => (∃ v d arr subs ex, e = .returned (.tuple #[v, .int .i64 d]) ∧ StR w' v arr subs ex ∧ -10 ≤ d ∧ d ≤ 10) ∧ Ext w w' := by
  have HS := Lib.hid hs; have HL := Lib.hid hlt; clear hs hlt
  obtain ⟨RB, hRB⟩ : ∃ a, w.heap.size = a := ⟨_, rfl⟩
  obtain ⟨W, hW⟩ : ∃ W, w.alloc (.cells #[.string ⟨#[]⟩, .slice none 0 0, .int .i64 0, .int .i64 0, .slice none 0 0, .int .i64 0, .string ⟨#[]⟩, .slice none 0 0, .slice none 0 0] 56) = W := ⟨_, rfl⟩
  have E0 : Hid (Ext w W) := Lib.hid (by rw [← hW]; exact (Ext.refl w).alloc _)
  have X0 : Hid (W.heap[RB]? = some (.cells #[.string ⟨#[]⟩, .slice none 0 0, .int .i64 0, .int .i64 0, .slice none 0 0, .int .i64 0, .string ⟨#[]⟩, .slice none 0 0, .slice none 0 0] 56 (0, 0))) := Lib.hid (by rw [← hW]; exact blk_at hRB.symm)
  have hwR : w.heap.size ≤ RB := by omega
  have HW := Lib.hid hW; have HRB := Lib.hid hRB
  clear hW hRB
  go_enter Try.func22, Try.ntmps22
  go_wp2_with (fail)
  try rw [HRB.out]
  try rw [HW.out]
  refine (l16Open_any p n c W (HS.out.ext E0.out) (fun b off h e => Nat.lt_of_lt_of_le (HL.out b off h e) E0.out.size_le)).mono ?_
  rintro e w1 ⟨g, rfl, hR, hE⟩
  have H1 := Lib.hid hR; have X1 := Lib.hid (hE.blk X0.out)
  have hg : W.heap.size ≤ g := by obtain ⟨_, _, _, _, _, _, _, h, _⟩ := hR; exact h
  have hRg : RB < g := by have := lt_of_block X0.out; omega
  have hlg := hR.lt
  clear hR hE X0
  go_wp2_with (fail)
  refine (pick_any W g 0 4 w1 H1.out (by omega) (by omega)).mono ?_
  rintro e w2 ⟨⟨r, rfl, hr⟩, h4, h5⟩
  have hr4 : r ≤ 4 := by have := hr (by omega); omega
  have H2 := Lib.hid h4; have X2 := Lib.hid (blk_dr X1.out h5 (by omega))
  have hs2 := h5.size
  clear h4 h5 H1 X1 hr
  go_wp2_with (fail)
  refine (l3Stmt_any W g 1 r w2 H2.out (by omega) hr4).mono ?_
  rintro e w3 ⟨⟨v3, rfl, hds⟩, h4, h5⟩
  obtain ⟨arr3, subs3, e3, hst3, hf3, hg3⟩ := hds.str
  have H3 := Lib.hid h4; have X3 := Lib.hid (blk_dr X2.out h5 (by omega)); have ST3 := Lib.hid hst3
  have hs3 := h5.size
  clear h4 h5 H2 X2 hds hst3
  go_wp2_with (fail)
  refine (l3Mutate_any W g 140 v3 arr3 subs3 e3 w3 H3.out (by omega) ST3.out hf3 hg3).mono ?_
  rintro e w4 ⟨⟨v4, rfl, hdw⟩, h4, h5⟩
  obtain ⟨a, q1, n1, c1, k1, k2, q2, n2, c2, k3, b, q3, n3, c3, q4, n4, c4, rfl⟩ := hdw.nine
  obtain ⟨SB, hSB⟩ : ∃ x, w4.heap.size = x := ⟨_, rfl⟩
  obtain ⟨w5, hw5⟩ : ∃ W, w4.alloc (.cells #[.string a, .slice q1 n1 c1, .int .i64 k1, .int .i64 k2, .slice q2 n2 c2, .int .i64 k3, .string b, .slice q3 n3 c3, .slice q4 n4 c4] 56) = W := ⟨_, rfl⟩
  have E45 : Ext w4 w5 := by rw [← hw5]; exact (Ext.refl w4).alloc _
  have B5 : Hid (w5.heap[SB]? = some (.cells #[.string a, .slice q1 n1 c1, .int .i64 k1, .int .i64 k2, .slice q2 n2 c2, .int .i64 k3, .string b, .slice q3 n3 c3, .slice q4 n4 c4] 56 (0, 0))) := Lib.hid (by rw [← hw5]; exact blk_at hSB.symm)
  have H5 := Lib.hid (h4.ext E45); have X5 := Lib.hid (E45.blk (blk_dr X3.out h5 (by omega))); have DS5 := Lib.hid (hdw.ext E45)
  have hgS : g < SB := by have := h5.size; omega
  have hz5 : w3.heap.size ≤ w5.heap.size := by have := h5.size; have := E45.size_le; omega
  have HW5 := Lib.hid hw5; have HSB := Lib.hid hSB
  clear h4 h5 H3 X3 ST3 hdw E45 hw5 hSB
  go_wp2_with (fail)
  try rw [HSB.out]
  try rw [HW5.out]
  obtain ⟨s0, s1, s2, s3, s4, s5, s6, s7, s8⟩ := blk9 B5.out
  obtain ⟨W6, hW6⟩ : ∃ W6, w5.alloc (.cells #[.int .i64 2, .int .i64 1, .int .i64 3, .int .i64 0, .int .i64 4, .int .i64 (-1), .int .i64 5] 3) = W6 := ⟨_, rfl⟩
  have KS : Hid (∀ V, Dr w5 g V → V.cell? ⟨SB, 0, none⟩ = some (.string a) ∧ V.cell? ⟨SB, 1, none⟩ = some (.slice q1 n1 c1) ∧ V.cell? ⟨SB, 2, none⟩ = some (.int .i64 k1) ∧ V.cell? ⟨SB, 3, none⟩ = some (.int .i64 k2) ∧ V.cell? ⟨SB, 4, none⟩ = some (.slice q2 n2 c2) ∧ V.cell? ⟨SB, 5, none⟩ = some (.int .i64 k3) ∧ V.cell? ⟨SB, 6, none⟩ = some (.string b) ∧ V.cell? ⟨SB, 7, none⟩ = some (.slice q3 n3 c3) ∧ V.cell? ⟨SB, 8, none⟩ = some (.slice q4 n4 c4)) := Lib.hid (fun V h => blk9 (blk_dr B5.out h (by omega)))
  clear hW6 W6
  have HLit : Hid (((w5.drew).alloc (.cells #[.int .i64 2, .int .i64 1, .int .i64 3, .int .i64 0, .int .i64 4, .int .i64 (-1), .int .i64 5] 3)).heap[w5.heap.size]? = some (.cells (([2, 1, 3, 0, 4, -1, 5] : List Int).map (Value.int .i64)).toArray 3 (0, 0))) := Lib.hid (blk_at rfl)
  refine wp_region_last (S := (fun V => V.cell? ⟨SB, 0, none⟩ = some (.string a) ∧ V.cell? ⟨SB, 1, none⟩ = some (.slice q1 n1 c1) ∧ V.cell? ⟨SB, 2, none⟩ = some (.int .i64 k1) ∧ V.cell? ⟨SB, 3, none⟩ = some (.int .i64 k2) ∧ V.cell? ⟨SB, 4, none⟩ = some (.slice q2 n2 c2) ∧ V.cell? ⟨SB, 5, none⟩ = some (.int .i64 k3) ∧ V.cell? ⟨SB, 6, none⟩ = some (.string b) ∧ V.cell? ⟨SB, 7, none⟩ = some (.slice q3 n3 c3) ∧ V.cell? ⟨SB, 8, none⟩ = some (.slice q4 n4 c4))) (by kernel_rfl) (KS.out _ (Dr.refl w5 g).drew) (fun hHeld => ?_)
  refine tkL (some 14) 0 ?vs1 rfl (by kernel_rfl) (by kernel_rfl) (fun _ _ _ h => h) (Or.inl ⟨by rfl, ?hys1⟩) (by assumption) ?rs1
  case hys1 => intro w hSw; (try dsimp only at hSw); go_simp; first | done | with_reducible rfl
  case' rs1 => try simp only [Act.put, List.setIfInBounds_toArray, List.set_cons_zero, List.set_cons_succ]
  refine tkL (some 15) 1 ?vs2 rfl (by kernel_rfl) (by kernel_rfl) (fun _ _ _ h => h) (Or.inl ⟨by rfl, ?hys2⟩) (by assumption) ?rs2
  case hys2 => intro w hSw; (try dsimp only at hSw); go_simp; first | done | with_reducible rfl
  case' rs2 => try simp only [Act.put, List.setIfInBounds_toArray, List.set_cons_zero, List.set_cons_succ]
  refine oneL (i := 2) rfl (by kernel_rfl) (fun K9 hK => ?_)
  go_simp
  refine hK.out _ _ (KS.out _ ((Dr.refl w5 g).drew.alloc _)) (fun hHs3 => ?_)
  clear hK K9
  try simp only [Act.put, List.setIfInBounds_toArray, List.set_cons_zero, List.set_cons_succ]
  refine oneL (i := 3) rfl (by kernel_rfl) (fun K9 hK => ?_)
  (go_simp; refine (num_any W g 142 w5.heap.size 7 [2, 1, 3, 0, 4, -1, 5] _ (H5.out.ext ((Ext.refl w5).drew.alloc _)) (by omega) rfl (by omega) (by omega) HLit.out (by omega)).mono ?_; rintro e v7 ⟨⟨d, rfl, hdm⟩, h8, h9⟩; have g3 : Dr w5 g v7 := ((Dr.refl w5 g).drew.alloc _).trans h9; have x7 := blk_dr X5.out g3 (by omega); obtain ⟨r0, r1, r2, r3, r4, r5, r6, r7, r8⟩ := blk9 x7; have f0 := blk9fz x7 0; have f1 := blk9fz x7 1; have f2 := blk9fz x7 2; have f3 := blk9fz x7 3; have f4 := blk9fz x7 4; have f5 := blk9fz x7 5; have f6 := blk9fz x7 6; have f7 := blk9fz x7 7; have f8 := blk9fz x7 8; have zl := lt_of_block x7; have hfin := blk9 (grownBy_blk (sets9_grown v7 RB (.string a) (.slice q1 n1 c1) (.int .i64 k1) (.int .i64 k2) (.slice q2 n2 c2) (.int .i64 k3) (.string b) (.slice q3 n3 c3) (.slice q4 n4 c4)) (blk_dr B5.out g3 (by omega)) (fun e => by have := Option.some.inj e; omega)))
  refine hK.out _ _ (KS.out _ g3) (fun hHs4 => ?_)
  clear hK K9
  try simp only [Act.put, List.setIfInBounds_toArray, List.set_cons_zero, List.set_cons_succ]
  refine oneL (i := 4) rfl (by kernel_rfl) (fun K9 hK => ?_)
  go_simp
  refine hK.out _ _ hfin (fun hHs5 => ?_)
  clear hK K9
  try simp only [Act.put, List.setIfInBounds_toArray, List.set_cons_zero, List.set_cons_succ]
  refine lastL (i := 5) rfl (by kernel_rfl) (by kernel_rfl) (fun K9 hK => ?_)
  go_simp
  refine hK.out _ _ ?_
  clear hK K9
  try simp only [Act.put, List.setIfInBounds_toArray, List.set_cons_zero, List.set_cons_succ]
  have EV : Ext w v7 := E0.out.trans (by obtain ⟨_, _, _, _, _, _, _, _, h, _⟩ := h8; exact h)
  have hds := DSw.dr DS5.out g3 (by omega)
  have hd10 : -10 ≤ d ∧ d ≤ 10 := by simp at hdm; omega
  have HEV := Lib.hid EV; have HDS := Lib.hid hds
  clear EV hds h8 h9 g3 x7 f0 f1 f2 f3 f4 f5 f6 f7 f8 hdm hfin s0 s1 s2 s3 s4 s5 s6 s7 s8
  go_wp2
  have hfinal : DSw w3.heap.size (((((((((v7.setCell ⟨RB, 0, none⟩ (.string a)).setCell ⟨RB, 1, none⟩ (.slice q1 n1 c1)).setCell ⟨RB, 2, none⟩ (.int .i64 k1)).setCell ⟨RB, 3, none⟩ (.int .i64 k2)).setCell ⟨RB, 4, none⟩ (.slice q2 n2 c2)).setCell ⟨RB, 5, none⟩ (.int .i64 k3)).setCell ⟨RB, 6, none⟩ (.string b)).setCell ⟨RB, 7, none⟩ (.slice q3 n3 c3)).setCell ⟨RB, 8, none⟩ (.slice q4 n4 c4)) (.agg #[.string a, .slice q1 n1 c1, .int .i64 k1, .int .i64 k2, .slice q2 n2 c2, .int .i64 k3, .string b, .slice q3 n3 c3, .slice q4 n4 c4]) := by
    iterate 9 (refine DSw.setOld ?_ (by dsimp only; omega) _)
    exact HDS.out
  obtain ⟨arr9, subs9, e9, hst9⟩ := hfinal.str
  refine bodyPost_ret (v := .tuple #[.agg #[.string a, .slice q1 n1 c1, .int .i64 k1, .int .i64 k2, .slice q2 n2 c2, .int .i64 k3, .string b, .slice q3 n3 c3, .slice q4 n4 c4], .int .i64 d]) (by simp [results, Try.results22, go_sem, r0, r1, r2, r3, r4, r5, r6, r7, r8]) rfl ⟨⟨_, d, arr9, subs9, e9, rfl, hst9, hd10.1, hd10.2⟩, ?_⟩
  iterate 9 (refine Ext.setAt ?_ (by omega) _)
  exact HEV.out
end Go.Proofs.Ytccibfldadflkaa
