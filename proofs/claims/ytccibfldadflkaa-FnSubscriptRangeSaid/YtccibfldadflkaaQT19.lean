/- The texts Q3, joined. No statement is proved here. -/
import Derived.Test.YtccibfldadflkaaQT18
/- Draws: a loop, a nest. -/
namespace Go.Proofs.Ytccibfldadflkaa
open Go.RowKit

theorem one_side {B a : Nat} {w : World} {u0 : Value} {k : Int} {xs : List Int} (h : w.heap[a]? = some (.cells #[u0, .int .i64 k] 36 (0, 0))) (hB : B ≤ a) (hi : IntsOwn B w u0 xs) : AffsOwn B w (.slice (some ⟨a, 0, none⟩) 1 1) [(xs, k)] :=
  ⟨[u0, .int .i64 k], ⟨rfl, .inr ⟨a, 1, _, rfl, hB, h, Nat.le_refl _, by unfold maxLen; omega, rfl, rfl⟩⟩, fun i x hx => by
    match i, hx with
    | 0, hx => simp at hx; subst hx; exact ⟨u0, _, rfl, rfl, hi, rfl⟩⟩
theorem AffsOwn.res {B gR : Nat} {w : World} {v u0 u1 r0 r1 : Value} {xs : List Aff} (h : AffsOwn B w v xs) (hR : w.heap[gR]? = some (.cells #[r0, r1] 75 (0, 0))) : AffsOwn B ((w.setCell ⟨gR, 0, none⟩ u0).setCell ⟨gR, 1, none⟩ u1) v xs :=
  AffsOwn.tag (AffsOwn.tag h (grown_set w gR 0 u0) (Tag.blk hR) (by decide) (by decide)) (grown_set _ gR 1 u1) (Tag.blk (blk2_set0' hR)) (by decide) (by decide)
theorem AffsOwn.off {B a b n c : Nat} {w w' : World} {xs : List Aff} (h : AffsOwn B w (.slice (some ⟨a, 0, none⟩) n c) xs) (hg : w.grownBy w' (some b)) (ht : Tag w (some b) 36) (hne : a ≠ b) : AffsOwn B w' (.slice (some ⟨a, 0, none⟩) n c) xs :=
  PairsOwn.map' h (fun vs h => World.ownsRow.kept h hg (.inr (fun e => hne (Option.some.inj e)))) (fun h => ⟨h.1.tag hg ht (by decide), h.2⟩)
theorem FourA.one {xs : List Int} {k : Int} (h : xs.length = 4) : FourA 1 [(xs, k)] := ⟨by simp, fun a ha => by simp at ha; rw [ha]; exact h⟩
theorem unit_bd {v : Int} {i : Nat} {a : Int} (h : (unitL v)[i]? = some a) : 0 ≤ a ∧ a ≤ 1 := by
  have hm := List.mem_of_getElem? h
  unfold unitL at hm
  rcases List.mem_or_eq_of_mem_set hm with h | h
  · simp at h; omega
  · omega
theorem zero_bd {i : Nat} {a : Int} (h : ([0, 0, 0, 0] : List Int)[i]? = some a) : a = 0 := by
  have hm := List.mem_of_getElem? h
  simpa using hm
theorem comb_len4 {xs ys : List Int} {x y : Int} (hx : xs.length = 4) (hy : ys.length = 4) : (comb xs x ys y).length = 4 := by simp [comb, hx, hy]
theorem IntsOwn.rowOf {B B' : Nat} {w : World} {v : Value} {xs : List Int} (h : IntsOwn B w v xs) (hx : xs.length = 4) (hB : B' ≤ B) : w.ownsRow B' 3 1 v 4 (xs.map (Value.int .i64)) := ownsRow_weak (h.row hx) hB

/-- What is there when the two bounds have been drawn. -/
structure LpSt (W w : World) (g K gA gB : Nat) (wc : World) (pa pb : Option Addr) (ca cb : Nat) (ka kb : Int) (xs ys : List Int) : Prop where
  A : wc.heap[gA]? = some (.cells #[.slice pa 4 ca, .int .i64 ka] 36 (0, 0))
  B : wc.heap[gB]? = some (.cells #[.slice pb 4 cb, .int .i64 kb] 36 (0, 0))
  xl : xs.length = 4
  yl : ys.length = 4
  xo : wc.ownsRow w.heap.size 3 1 (.slice pa 4 ca) 4 (xs.map (Value.int .i64))
  yo : wc.ownsRow w.heap.size 3 1 (.slice pb 4 cb) 4 (ys.map (Value.int .i64))
  rd : Rd W g K wc
  dr : Dr w g wc
  res : wc.heap[w.heap.size]? = some (.cells #[.slice none 0 0, .slice none 0 0] 75 (0, 0))
theorem LpSt.call {W w : World} {g K K' gA gB : Nat} {wc wd : World} {pa pb : Option Addr} {ca cb : Nat} {ka kb : Int} {xs ys : List Int} (h : LpSt W w g K gA gB wc pa pb ca cb ka kb xs ys) (hr : Rd W g K' wd) (hd : Dr wc g wd) (hg : g < w.heap.size) (hA : w.heap.size < gA) (hB : w.heap.size < gB) : LpSt W w g K' gA gB wd pa pb ca cb ka kb xs ys :=
  ⟨blk_dr h.A hd (by omega), blk_dr h.B hd (by omega), h.xl, h.yl, row_dr h.xo hd hg, row_dr h.yo hd hg, hr, h.dr.trans hd, blk_dr h.res hd (by omega)⟩
theorem LpSt.mono {W w : World} {g K K' gA gB : Nat} {wc : World} {pa pb : Option Addr} {ca cb : Nat} {ka kb : Int} {xs ys : List Int} (h : LpSt W w g K gA gB wc pa pb ca cb ka kb xs ys) (hk : K ≤ K') : LpSt W w g K' gA gB wc pa pb ca cb ka kb xs ys := { h with rd := h.rd.mono hk }
theorem LpSt.ext {W w : World} {g K gA gB : Nat} {wc wd : World} {pa pb : Option Addr} {ca cb : Nat} {ka kb : Int} {xs ys : List Int} (h : LpSt W w g K gA gB wc pa pb ca cb ka kb xs ys) (he : Ext wc wd) : LpSt W w g K gA gB wd pa pb ca cb ka kb xs ys :=
  ⟨he.blk h.A, he.blk h.B, h.xl, h.yl, ownsRow_ext h.xo he, ownsRow_ext h.yo he, h.rd.ext he, h.dr.ext he, he.blk h.res⟩
theorem LpSt.setA {W w : World} {g K gA gB c : Nat} {wc : World} {pa pb p : Option Addr} {ca cb : Nat} {ka kb k : Int} {xs ys zs : List Int} (h : LpSt W w g K gA gB wc pa pb ca cb ka kb xs ys) (hz : zs.length = 4) (ho : wc.ownsRow w.heap.size 3 1 (.slice p 4 c) 4 (zs.map (Value.int .i64))) (hg : g < w.heap.size) (hA : w.heap.size < gA) (hAB : gA ≠ gB) :
    LpSt W w g K gA gB ((wc.setCell ⟨gA, 0, none⟩ (.slice p 4 c)).setCell ⟨gA, 1, none⟩ (.int .i64 k)) p pb c cb k kb zs ys :=
  have t := Tag.blk h.A
  have t2 := Tag.blk (blk2_set0' (c := .slice p 4 c) h.A)
  ⟨blk2_set h.A, blk_off (blk_off h.B (fun e => hAB e.symm) _) (fun e => hAB e.symm) _, hz, h.yl, row_tag (row_tag ho (grown_set _ _ _ _) t (by decide)) (grown_set _ _ _ _) t2 (by decide), row_tag (row_tag h.yo (grown_set _ _ _ _) t (by decide)) (grown_set _ _ _ _) t2 (by decide),
    (h.rd.set (by omega) _).set (by omega) _, (h.dr.set (by omega) _).set (by omega) _, blk_off (blk_off h.res (by omega) _) (by omega) _⟩
theorem LpSt.setB {W w : World} {g K gA gB c : Nat} {wc : World} {pa pb p : Option Addr} {ca cb : Nat} {ka kb k : Int} {xs ys zs : List Int} (h : LpSt W w g K gA gB wc pa pb ca cb ka kb xs ys) (hz : zs.length = 4) (ho : wc.ownsRow w.heap.size 3 1 (.slice p 4 c) 4 (zs.map (Value.int .i64))) (hg : g < w.heap.size) (hB : w.heap.size < gB) (hAB : gA ≠ gB) :
    LpSt W w g K gA gB ((wc.setCell ⟨gB, 0, none⟩ (.slice p 4 c)).setCell ⟨gB, 1, none⟩ (.int .i64 k)) pa p ca c ka k xs zs :=
  have t := Tag.blk h.B
  have t2 := Tag.blk (blk2_set0' (c := .slice p 4 c) h.B)
  ⟨blk_off (blk_off h.A hAB _) hAB _, blk2_set h.B, h.xl, hz, row_tag (row_tag h.xo (grown_set _ _ _ _) t (by decide)) (grown_set _ _ _ _) t2 (by decide), row_tag (row_tag ho (grown_set _ _ _ _) t (by decide)) (grown_set _ _ _ _) t2 (by decide),
    (h.rd.set (by omega) _).set (by omega) _, (h.dr.set (by omega) _).set (by omega) _, blk_off (blk_off h.res (by omega) _) (by omega) _⟩

set_option linter.unusedSimpArgs false in
set_option linter.unusedVariables false in
set_option maxRecDepth 100000 in
set_option maxHeartbeats 8000000 in
theorem l2Loop_any (W : World) (g K d : Nat) (w : World) (hr : Rd W g K w) (hK : K ≤ 90000) (hd : d ≤ 3) :
    Calls Try.prog 77 #[.pointer (some ⟨g, 0, none⟩), .int .i64 d] w fun e w' => (∃ u0 u1 x, e = .returned (.agg #[u0, u1]) ∧ LoopO w.heap.size w' u0 u1 x ∧ FourA 2 x.1 ∧ FourA 2 x.2) ∧ Rd W g (K + 7) w' ∧ Dr w g w' := by
  obtain ⟨i1, ha, hy0, hy1, hy2⟩ := info_parts infoAff
  have hlg := hr.lt
  have HR := Lib.hid hr; clear hr
  go_enter Try.func77, Try.ntmps77
  go_wp2_with (fail)
  refine (num_any W g K (w.heap.size + 1) 5 [0, 0, 1, 0, -1] _ (HR.out.ext (((Ext.refl w).alloc _).alloc _)) (by omega) rfl (by omega) (by omega) (blk_at (by simp)) (by omega)).mono ?_
  rintro e w1 ⟨⟨x1, rfl, -⟩, h2, h3⟩
  have BR1 := Lib.hid (blk_dr (blk_old (o := .cells #[.int .i64 0, .int .i64 0, .int .i64 1, .int .i64 0, .int .i64 (-1)] 3) (blk_at (w := w) (g := w.heap.size) (o := .cells #[.slice none 0 0, .slice none 0 0] 75) rfl)) h3 (by omega))
  have HD1 : Hid (Dr w g w1) := Lib.hid ((((Dr.refl w g).alloc _).alloc _).trans h3)
  have H1 := Lib.hid h2
  have hs1 := h3.size
  simp only [World.size_alloc] at hs1
  clear h2 h3 HR
  go_wp2_with (fail)
  refine (l1Const_any x1 w1).mono ?_
  rintro e w2 ⟨pA, cA, rfl, hv, hE⟩
  have E2 : Ext w1 (w2.alloc (.cells #[.slice pA 4 cA, .int .i64 x1] 36)) := hE.alloc _
  have A2 := Lib.hid (blk_at (w := w2) (o := .cells #[.slice pA 4 cA, .int .i64 x1] 36) (g := w2.heap.size) rfl)
  have BR2 := Lib.hid (E2.blk BR1.out); have HD2 := Lib.hid (HD1.out.ext E2); have H2 := Lib.hid (H1.out.ext E2); have XO2 := Lib.hid (ownsRow_ext (hv.rowOf (B' := w.heap.size) rfl (by omega)) ((Ext.refl w2).alloc (.cells #[.slice pA 4 cA, .int .i64 x1] 36)))
  have hs2 := hE.size_le
  have HSZ : Hid ((w2.alloc (.cells #[.slice pA 4 cA, .int .i64 x1] 36)).heap.size = w2.heap.size + 1) := Lib.hid (by simp)
  clear hv hE E2 BR1 HD1 H1
  go_wp2_with (fail)
  generalize w2.alloc (.cells #[.slice pA 4 cA, .int .i64 x1] 36) = W2 at *
  generalize hgA : w2.heap.size = gA at *
  clear hgA
  refine (num_any W g (K + 1) (gA + 1) 5 [3, 4, 2, 3, 1] _ (H2.out.ext ((Ext.refl W2).alloc _)) (by omega) rfl (by omega) (by omega) (blk_at HSZ.out.symm) (by omega)).mono ?_
  rintro e w3 ⟨⟨x2, rfl, -⟩, h2, h3⟩
  have hd3 : Dr W2 g w3 := ((Dr.refl W2 g).alloc _).trans h3
  have A3 := Lib.hid (blk_dr A2.out hd3 (by omega)); have BR3 := Lib.hid (blk_dr BR2.out hd3 (by omega)); have HD3 := Lib.hid (HD2.out.trans hd3); have XO3 := Lib.hid (row_dr XO2.out hd3 hlg); have H3 := Lib.hid h2
  have hs3 := hd3.size
  have hgA3 := lt_of_block A3.out
  clear h2 h3 hd3 A2 BR2 HD2 XO2 H2
  go_wp2_with (fail)
  refine (l1Const_any x2 w3).mono ?_
  rintro e w4 ⟨pB, cB, rfl, hv, hE⟩
  have E4 : Ext w3 (w4.alloc (.cells #[.slice pB 4 cB, .int .i64 x2] 36)) := hE.alloc _
  have hs4 := hE.size_le
  have ST : Hid (LpSt W w g (K + 2) gA w4.heap.size (w4.alloc (.cells #[.slice pB 4 cB, .int .i64 x2] 36)) pA pB cA cB x1 x2 [0, 0, 0, 0] [0, 0, 0, 0]) := Lib.hid ⟨E4.blk A3.out, blk_at rfl, rfl, rfl, ownsRow_ext XO3.out E4, ownsRow_ext (hv.rowOf (B' := w.heap.size) rfl (by omega)) ((Ext.refl w4).alloc _), H3.out.ext E4, HD3.out.ext E4, E4.blk BR3.out⟩
  clear hv hE E4 A3 BR3 HD3 XO3 H3
  have hgAB : gA ≠ w4.heap.size := by omega
  have hgA : w.heap.size < gA := by omega
  have hgB : w.heap.size < w4.heap.size := by omega
  have hwl := lt_of_block ST.out.B
  by_cases hd0 : d = 0
  · subst hd0
    clear hd
    have HSZ9 : Hid ((w4.alloc (.cells #[.slice pB 4 cB, .int .i64 x2] 36)).heap.size = w4.heap.size + 1) := Lib.hid (by simp)
    have hlA9 := lt_of_block ST.out.A; have hlB9 := lt_of_block ST.out.B
    obtain ⟨a0, a1, -, -⟩ := blk2 ST.out.A
    obtain ⟨b0, b1, -, -⟩ := blk2 ST.out.B
    go_wp2_with (fail)
    have hwc := ST.out.dr.size
    generalize (w4.alloc (.cells #[.slice pB 4 cB, .int .i64 x2] 36)) = wc at *
    generalize w4.heap.size + 1 = gs at *
    rw [HSZ9.out] at hwc
    have EV : Ext wc (((wc.alloc (.cells #[.slice pA 4 cA, .int .i64 x1] 36)).alloc (.cells #[.slice pB 4 cB, .int .i64 x2] 36)).alloc (.cells #[.slice (some ⟨gs, 0, none⟩) 1 1, .slice (some ⟨gs + 1, 0, none⟩) 1 1] 75)) := (((Ext.refl wc).alloc _).alloc _).alloc _
    have GAb := Lib.hid (show (((wc.alloc (.cells #[.slice pA 4 cA, .int .i64 x1] 36)).alloc (.cells #[.slice pB 4 cB, .int .i64 x2] 36)).alloc (.cells #[.slice (some ⟨gs, 0, none⟩) 1 1, .slice (some ⟨gs + 1, 0, none⟩) 1 1] 75)).heap[gs]? = some (.cells #[.slice pA 4 cA, .int .i64 x1] 36 (0, 0)) from blk_old (blk_old (blk_at HSZ9.out.symm)))
    have GBb := Lib.hid (show (((wc.alloc (.cells #[.slice pA 4 cA, .int .i64 x1] 36)).alloc (.cells #[.slice pB 4 cB, .int .i64 x2] 36)).alloc (.cells #[.slice (some ⟨gs, 0, none⟩) 1 1, .slice (some ⟨gs + 1, 0, none⟩) 1 1] 75)).heap[gs + 1]? = some (.cells #[.slice pB 4 cB, .int .i64 x2] 36 (0, 0)) from blk_old (blk_at (by simp [HSZ9.out])))
    have GXb := Lib.hid (show (((wc.alloc (.cells #[.slice pA 4 cA, .int .i64 x1] 36)).alloc (.cells #[.slice pB 4 cB, .int .i64 x2] 36)).alloc (.cells #[.slice (some ⟨gs, 0, none⟩) 1 1, .slice (some ⟨gs + 1, 0, none⟩) 1 1] 75)).heap[gs + 1 + 1]? = some (.cells #[.slice (some ⟨gs, 0, none⟩) 1 1, .slice (some ⟨gs + 1, 0, none⟩) 1 1] 75 (0, 0)) from blk_at (by simp [HSZ9.out]))
    have STV := Lib.hid (ST.out.ext EV)
    clear a0 a1 b0 b1 EV ST
    generalize ((wc.alloc (.cells #[.slice pA 4 cA, .int .i64 x1] 36)).alloc (.cells #[.slice pB 4 cB, .int .i64 x2] 36)).alloc (.cells #[.slice (some ⟨gs, 0, none⟩) 1 1, .slice (some ⟨gs + 1, 0, none⟩) 1 1] 75) = V at *
    have SA := Lib.hid (one_side GAb.out hwc (IntsOwn.mk STV.out.xo STV.out.xl)); have SB := Lib.hid (one_side GBb.out (show w.heap.size ≤ gs + 1 by omega) (IntsOwn.mk STV.out.yo STV.out.yl))
    refine (pick_any W g (K + 2) 12 V STV.out.rd (by omega) (by omega)).mono ?_
    rintro e w6 ⟨⟨r6, rfl, -⟩, h4, h5⟩
    have GX := Lib.hid (blk_dr GXb.out h5 (by omega)); have RES := Lib.hid (blk_dr STV.out.res h5 (by omega)); have SA6 := Lib.hid (AffsOwn.dr SA.out h5 hlg); have SB6 := Lib.hid (AffsOwn.dr SB.out h5 hlg); have H6 := Lib.hid h4; have D6 := Lib.hid (STV.out.dr.trans h5); have XL := Lib.hid STV.out.xl; have YL := Lib.hid STV.out.yl
    clear h4 h5 GAb GBb GXb STV SA SB
    have hlx := lt_of_block GX.out
    by_cases h60 : r6 = 0
    · subst h60
      obtain ⟨xc0, xc1, -, -⟩ := blk2 GX.out
      have HLit := Lib.hid (show ((w6.alloc (.cells #[.int .i64 3, .int .i64 2, .int .i64 4] 3)).drew).heap[w6.heap.size]? = some (.cells (([3, 2, 4] : List Int).map (Value.int .i64)).toArray 3 (0, 0)) from blk_at rfl)
      go_wp2_with (fail)
      refine wp_region_held_drew (S := (fun _ => True)) (by kernel_rfl) trivial (fun hHeld => ?_)
      refine wpAnyH_takeDw (some 45) (i := 0) (v := ?vz1q1) rfl (by kernel_rfl) (by kernel_rfl) (by kernel_rfl) (by kernel_rfl) (fun _ _ _ h => h) (Or.inl ⟨by rfl, ?hyz1q1⟩) (by assumption) ?rz1q1
      case hyz1q1 => intro w hSw; (try dsimp only at hSw); go_simp; first | done | with_reducible rfl
      case' rz1q1 => try simp only [Act.put, List.setIfInBounds_toArray, List.set_cons_zero, List.set_cons_succ]
      refine wpAnyH_takeDw (some 47) (i := 2) (v := ?vz1q2) rfl (by kernel_rfl) (by kernel_rfl) (by kernel_rfl) (by kernel_rfl) (fun _ _ _ h => h) (Or.inl ⟨by rfl, ?hyz1q2⟩) (by assumption) ?rz1q2
      case hyz1q2 => intro w hSw; (try dsimp only at hSw); go_simp; first | done | with_reducible rfl
      case' rz1q2 => try simp only [Act.put, List.setIfInBounds_toArray, List.set_cons_zero, List.set_cons_succ]
      refine wpAnyH_ready (rs := [1, 3]) (by kernel_rfl) (by simp) ?_
      refine AllReadyH.cons rfl (fun K9 hK => ?_) (AllReadyH.cons rfl (fun K9 hK => ?_) AllReadyH.nil)
      · skip
        go_simp
        refine hK.out _ _ trivial (fun hHz1q3 => ?_)
        clear hK K9
        try simp only [Act.put, List.setIfInBounds_toArray, List.set_cons_zero, List.set_cons_succ]
        refine wpAnyH_ready (rs := [3]) (by kernel_rfl) (by simp) ?_
        refine AllReadyH.cons rfl (fun K9 hK => ?_) AllReadyH.nil
        go_simp
        refine hK.out _ _ trivial (fun hHz1q4 => ?_)
        clear hK K9
        try simp only [Act.put, List.setIfInBounds_toArray, List.set_cons_zero, List.set_cons_succ]
        refine wpAnyH_ready (rs := [4]) (by kernel_rfl) (by simp) ?_
        refine AllReadyH.cons rfl (fun K9 hK => ?_) AllReadyH.nil
        (go_simp; refine (num_any W g (K + 2 + 1) w6.heap.size 3 [3, 2, 4] _ (H6.out.ext (((Ext.refl w6).alloc _).drew)) (by omega) rfl (by omega) (by omega) HLit.out (by omega)).mono ?_; rintro e v3 ⟨⟨y, rfl, -⟩, h8, h9⟩; have D3 : Dr w6 g v3 := (((Dr.refl w6 g).alloc _).drew).trans h9; have GX3 := blk_dr GX.out D3 (by omega); have RES3 := blk_dr RES.out D3 (by omega); obtain ⟨x0', x1', -, -⟩ := blk2 GX3; have hl3 := lt_of_block GX3)
        refine hK.out _ _ trivial (fun hHz1q5 => ?_)
        clear hK K9
        try simp only [Act.put, List.setIfInBounds_toArray, List.set_cons_zero, List.set_cons_succ]
        refine wpAnyH_ready (rs := [5]) (by kernel_rfl) (by simp) ?_
        refine AllReadyH.cons rfl (fun K9 hK => ?_) AllReadyH.nil
        (go_simp; refine (l1Const_any y _).mono ?_; rintro e v4 ⟨pN, cN, rfl, hvN, hE9⟩; have D4 : Dr w6 g v4 := D3.ext hE9; have GX4 := hE9.blk GX3; have RES4 := hE9.blk RES3; obtain ⟨x0'', x1'', -, -⟩ := blk2 GX4; have hl4 := lt_of_block GX4; have hs9 := D4.size; have hs39 := D3.size)
        refine hK.out _ _ trivial (fun hHz1q6 => ?_)
        clear hK K9
        try simp only [Act.put, List.setIfInBounds_toArray, List.set_cons_zero, List.set_cons_succ]
        refine wpAnyH_ready (rs := [6]) (by kernel_rfl) (by simp) ?_
        refine AllReadyH.cons rfl (fun K9 hK => ?_) AllReadyH.nil
        go_simp
        refine hK.out _ _ trivial (fun hHz1q7 => ?_)
        clear hK K9
        try simp only [Act.put, List.setIfInBounds_toArray, List.set_cons_zero, List.set_cons_succ]
        refine wpAnyH_ready (rs := [7]) (by kernel_rfl) (by simp) ?_
        refine AllReadyH.cons rfl (fun K9 hK => ?_) AllReadyH.nil
        (have EN : Ext v4 (v4.alloc (.cells #[.slice pN 4 cN, .int .i64 y] 36)) := (Ext.refl v4).alloc _; obtain ⟨vs, ho, he⟩ := AffsOwn.ext (AffsOwn.dr SB6.out D4 hlg) EN; have hvl := ho.1; refine step_append_lies _ rfl (.tmp 46) (.tmp 51) 49 rfl w.heap.size 36 i1 (.agg #[.slice none 0 0, .int .i64 0]) 2 32 underSliceAff ha hy0 hy1 hy2 rfl (by decide) (.slice (some ⟨gs + 1, 0, none⟩) 1 1) 1 vs rfl ho ⟨v4.heap.size, 0, none⟩ 1 1 [.slice pN 4 cN, .int .i64 y] rfl rfl (pair_cells rfl) (by intro u hu; simp at hu; rcases hu with rfl | rfl <;> rfl) (by omega) (by unfold maxLen; omega) (by omega) (by simp <;> omega) _ rfl ?_; intro gn cn w7 hown' hgrow' hgeq' hltg; have htag := own_tag ho; have GX7 := blk_tag (EN.blk GX4) hgrow' htag (by decide); have RES7 := blk_tag (EN.blk RES4) hgrow' htag (by decide); have hres : AffsOwn w.heap.size w7 (.slice (some ⟨gn, 0, none⟩) 2 cn) ([([0, 0, 0, 0], x2)] ++ [([0, 0, 0, 0], y)]) := PairsOwn.push (R := AffO) (fun h a b => AffO.grow h a b) rfl he hvl hown' hgrow' htag ⟨(hvN.weak (by omega)).ext EN, rfl⟩; have hoth := AffsOwn.off (a := gs) (b := gs + 1) (AffsOwn.ext (AffsOwn.dr SA6.out D4 hlg) EN) hgrow' htag (show gs ≠ gs + 1 by omega); have D7 := ((D6.out.trans D4).ext EN).fresh hgrow' (fun b hb => (ho.lt b hb).1); have H7 := ((h8.ext hE9).ext EN).beside hgrow' (fun j e => by have := (ho.lt j e).1; omega); obtain ⟨z0, z1, k0, k1⟩ := blk2 GX7)
        refine hK.out _ _ trivial (fun hHz1q8 => ?_)
        clear hK K9
        try simp only [Act.put, List.setIfInBounds_toArray, List.set_cons_zero, List.set_cons_succ]
        refine wpAnyH_takeDw (some 53) (i := 8) (v := ?vz1q9) rfl (by kernel_rfl) (by kernel_rfl) (by kernel_rfl) (by kernel_rfl) (fun _ _ _ h => h) (Or.inl ⟨by rfl, ?hyz1q9⟩) (by assumption) ?rz1q9
        case hyz1q9 => intro w hSw; (try dsimp only at hSw); go_simp; first | done | with_reducible rfl
        case' rz1q9 => try simp only [Act.put, List.setIfInBounds_toArray, List.set_cons_zero, List.set_cons_succ]
        refine wpAnyH_ready (rs := [9]) (by kernel_rfl) (by simp) ?_
        refine AllReadyH.cons rfl (fun K9 hK => ?_) AllReadyH.nil
        go_simp
        refine hK.out _ _ trivial (fun hHz1q10 => ?_)
        clear hK K9
        try simp only [Act.put, List.setIfInBounds_toArray, List.set_cons_zero, List.set_cons_succ]
        refine wpAnyH_done (by kernel_rfl) ?_ _
        have G8 := Lib.hid (blk2_set1' (c := .slice (some ⟨gn, 0, none⟩) 2 cn) GX7)
        have R8 := Lib.hid (blk_off (o' := 1) (g' := gs + 1 + 1) RES7 (by omega) (.slice (some ⟨gn, 0, none⟩) 2 cn))
        have M8 := Lib.hid (AffsOwn.tag hres (grown_set w7 (gs + 1 + 1) 1 (.slice (some ⟨gn, 0, none⟩) 2 cn)) (Tag.blk GX7) (by decide) (by decide)); have O8 := Lib.hid (AffsOwn.tag hoth (grown_set w7 (gs + 1 + 1) 1 (.slice (some ⟨gn, 0, none⟩) 2 cn)) (Tag.blk GX7) (by decide) (by decide))
        have H8 := Lib.hid (H7.set (b := gs + 1 + 1) (o := 1) (by omega) (.slice (some ⟨gn, 0, none⟩) 2 cn)); have D8 := Lib.hid (D7.set (j := gs + 1 + 1) (o := 1) (by omega) (.slice (some ⟨gn, 0, none⟩) 2 cn))
        clear GX7 RES7 hres hoth H7 D7 z0 z1 k0 k1
        obtain ⟨x0f, x1f, -, -⟩ := blk2 G8.out
        obtain ⟨r0f, r1f, f0f, f1f⟩ := blk2 R8.out
        go_wp2
        refine bodyPost_ret (v := .agg #[.slice (some ⟨gs, 0, none⟩) 1 1, .slice (some ⟨gn, 0, none⟩) 2 cn]) (by simp [results, Try.results77, go_sem, r0f, r1f]) rfl ⟨⟨_, _, ([([0, 0, 0, 0], x1)], [([0, 0, 0, 0], x2)] ++ [([0, 0, 0, 0], y)]), rfl, ⟨AffsOwn.res O8.out R8.out, AffsOwn.res M8.out R8.out⟩, FourA.mono (FourA.one XL.out) (by omega), FourA.mono (FourA.push (FourA.one YL.out) rfl) (by omega)⟩, ?_, ?_⟩
        · exact ((H8.out.set (by omega) _).set (by omega) _).mono (by omega)
        · exact (D8.out.set (Nat.le_refl _) _).set (Nat.le_refl _) _
      · skip
        go_simp
        refine hK.out _ _ trivial (fun hHz1q11 => ?_)
        clear hK K9
        try simp only [Act.put, List.setIfInBounds_toArray, List.set_cons_zero, List.set_cons_succ]
        refine wpAnyH_ready (rs := [1, 4]) (by kernel_rfl) (by simp) ?_
        refine AllReadyH.cons rfl (fun K9 hK => ?_) (AllReadyH.cons rfl (fun K9 hK => ?_) AllReadyH.nil)
        · skip
          go_simp
          refine hK.out _ _ trivial (fun hHz1q12 => ?_)
          clear hK K9
          try simp only [Act.put, List.setIfInBounds_toArray, List.set_cons_zero, List.set_cons_succ]
          refine wpAnyH_ready (rs := [4]) (by kernel_rfl) (by simp) ?_
          refine AllReadyH.cons rfl (fun K9 hK => ?_) AllReadyH.nil
          (go_simp; refine (num_any W g (K + 2 + 1) w6.heap.size 3 [3, 2, 4] _ (H6.out.ext (((Ext.refl w6).alloc _).drew)) (by omega) rfl (by omega) (by omega) HLit.out (by omega)).mono ?_; rintro e v3 ⟨⟨y, rfl, -⟩, h8, h9⟩; have D3 : Dr w6 g v3 := (((Dr.refl w6 g).alloc _).drew).trans h9; have GX3 := blk_dr GX.out D3 (by omega); have RES3 := blk_dr RES.out D3 (by omega); obtain ⟨x0', x1', -, -⟩ := blk2 GX3; have hl3 := lt_of_block GX3)
          refine hK.out _ _ trivial (fun hHz1q13 => ?_)
          clear hK K9
          try simp only [Act.put, List.setIfInBounds_toArray, List.set_cons_zero, List.set_cons_succ]
          refine wpAnyH_ready (rs := [5]) (by kernel_rfl) (by simp) ?_
          refine AllReadyH.cons rfl (fun K9 hK => ?_) AllReadyH.nil
          (go_simp; refine (l1Const_any y _).mono ?_; rintro e v4 ⟨pN, cN, rfl, hvN, hE9⟩; have D4 : Dr w6 g v4 := D3.ext hE9; have GX4 := hE9.blk GX3; have RES4 := hE9.blk RES3; obtain ⟨x0'', x1'', -, -⟩ := blk2 GX4; have hl4 := lt_of_block GX4; have hs9 := D4.size; have hs39 := D3.size)
          refine hK.out _ _ trivial (fun hHz1q14 => ?_)
          clear hK K9
          try simp only [Act.put, List.setIfInBounds_toArray, List.set_cons_zero, List.set_cons_succ]
          refine wpAnyH_ready (rs := [6]) (by kernel_rfl) (by simp) ?_
          refine AllReadyH.cons rfl (fun K9 hK => ?_) AllReadyH.nil
          go_simp
          refine hK.out _ _ trivial (fun hHz1q15 => ?_)
          clear hK K9
          try simp only [Act.put, List.setIfInBounds_toArray, List.set_cons_zero, List.set_cons_succ]
          refine wpAnyH_ready (rs := [7]) (by kernel_rfl) (by simp) ?_
          refine AllReadyH.cons rfl (fun K9 hK => ?_) AllReadyH.nil
          (have EN : Ext v4 (v4.alloc (.cells #[.slice pN 4 cN, .int .i64 y] 36)) := (Ext.refl v4).alloc _; obtain ⟨vs, ho, he⟩ := AffsOwn.ext (AffsOwn.dr SB6.out D4 hlg) EN; have hvl := ho.1; refine step_append_lies _ rfl (.tmp 46) (.tmp 51) 49 rfl w.heap.size 36 i1 (.agg #[.slice none 0 0, .int .i64 0]) 2 32 underSliceAff ha hy0 hy1 hy2 rfl (by decide) (.slice (some ⟨gs + 1, 0, none⟩) 1 1) 1 vs rfl ho ⟨v4.heap.size, 0, none⟩ 1 1 [.slice pN 4 cN, .int .i64 y] rfl rfl (pair_cells rfl) (by intro u hu; simp at hu; rcases hu with rfl | rfl <;> rfl) (by omega) (by unfold maxLen; omega) (by omega) (by simp <;> omega) _ rfl ?_; intro gn cn w7 hown' hgrow' hgeq' hltg; have htag := own_tag ho; have GX7 := blk_tag (EN.blk GX4) hgrow' htag (by decide); have RES7 := blk_tag (EN.blk RES4) hgrow' htag (by decide); have hres : AffsOwn w.heap.size w7 (.slice (some ⟨gn, 0, none⟩) 2 cn) ([([0, 0, 0, 0], x2)] ++ [([0, 0, 0, 0], y)]) := PairsOwn.push (R := AffO) (fun h a b => AffO.grow h a b) rfl he hvl hown' hgrow' htag ⟨(hvN.weak (by omega)).ext EN, rfl⟩; have hoth := AffsOwn.off (a := gs) (b := gs + 1) (AffsOwn.ext (AffsOwn.dr SA6.out D4 hlg) EN) hgrow' htag (show gs ≠ gs + 1 by omega); have D7 := ((D6.out.trans D4).ext EN).fresh hgrow' (fun b hb => (ho.lt b hb).1); have H7 := ((h8.ext hE9).ext EN).beside hgrow' (fun j e => by have := (ho.lt j e).1; omega); obtain ⟨z0, z1, k0, k1⟩ := blk2 GX7)
          refine hK.out _ _ trivial (fun hHz1q16 => ?_)
          clear hK K9
          try simp only [Act.put, List.setIfInBounds_toArray, List.set_cons_zero, List.set_cons_succ]
          refine wpAnyH_takeDw (some 53) (i := 8) (v := ?vz1q17) rfl (by kernel_rfl) (by kernel_rfl) (by kernel_rfl) (by kernel_rfl) (fun _ _ _ h => h) (Or.inl ⟨by rfl, ?hyz1q17⟩) (by assumption) ?rz1q17
          case hyz1q17 => intro w hSw; (try dsimp only at hSw); go_simp; first | done | with_reducible rfl
          case' rz1q17 => try simp only [Act.put, List.setIfInBounds_toArray, List.set_cons_zero, List.set_cons_succ]
          refine wpAnyH_ready (rs := [9]) (by kernel_rfl) (by simp) ?_
          refine AllReadyH.cons rfl (fun K9 hK => ?_) AllReadyH.nil
          go_simp
          refine hK.out _ _ trivial (fun hHz1q18 => ?_)
          clear hK K9
          try simp only [Act.put, List.setIfInBounds_toArray, List.set_cons_zero, List.set_cons_succ]
          refine wpAnyH_done (by kernel_rfl) ?_ _
          have G8 := Lib.hid (blk2_set1' (c := .slice (some ⟨gn, 0, none⟩) 2 cn) GX7)
          have R8 := Lib.hid (blk_off (o' := 1) (g' := gs + 1 + 1) RES7 (by omega) (.slice (some ⟨gn, 0, none⟩) 2 cn))
          have M8 := Lib.hid (AffsOwn.tag hres (grown_set w7 (gs + 1 + 1) 1 (.slice (some ⟨gn, 0, none⟩) 2 cn)) (Tag.blk GX7) (by decide) (by decide)); have O8 := Lib.hid (AffsOwn.tag hoth (grown_set w7 (gs + 1 + 1) 1 (.slice (some ⟨gn, 0, none⟩) 2 cn)) (Tag.blk GX7) (by decide) (by decide))
          have H8 := Lib.hid (H7.set (b := gs + 1 + 1) (o := 1) (by omega) (.slice (some ⟨gn, 0, none⟩) 2 cn)); have D8 := Lib.hid (D7.set (j := gs + 1 + 1) (o := 1) (by omega) (.slice (some ⟨gn, 0, none⟩) 2 cn))
          clear GX7 RES7 hres hoth H7 D7 z0 z1 k0 k1
          obtain ⟨x0f, x1f, -, -⟩ := blk2 G8.out
          obtain ⟨r0f, r1f, f0f, f1f⟩ := blk2 R8.out
          go_wp2
          refine bodyPost_ret (v := .agg #[.slice (some ⟨gs, 0, none⟩) 1 1, .slice (some ⟨gn, 0, none⟩) 2 cn]) (by simp [results, Try.results77, go_sem, r0f, r1f]) rfl ⟨⟨_, _, ([([0, 0, 0, 0], x1)], [([0, 0, 0, 0], x2)] ++ [([0, 0, 0, 0], y)]), rfl, ⟨AffsOwn.res O8.out R8.out, AffsOwn.res M8.out R8.out⟩, FourA.mono (FourA.one XL.out) (by omega), FourA.mono (FourA.push (FourA.one YL.out) rfl) (by omega)⟩, ?_, ?_⟩
          · exact ((H8.out.set (by omega) _).set (by omega) _).mono (by omega)
          · exact (D8.out.set (Nat.le_refl _) _).set (Nat.le_refl _) _
        · skip
          (go_simp; refine (num_any W g (K + 2 + 1) w6.heap.size 3 [3, 2, 4] _ (H6.out.ext (((Ext.refl w6).alloc _).drew)) (by omega) rfl (by omega) (by omega) HLit.out (by omega)).mono ?_; rintro e v3 ⟨⟨y, rfl, -⟩, h8, h9⟩; have D3 : Dr w6 g v3 := (((Dr.refl w6 g).alloc _).drew).trans h9; have GX3 := blk_dr GX.out D3 (by omega); have RES3 := blk_dr RES.out D3 (by omega); obtain ⟨x0', x1', -, -⟩ := blk2 GX3; have hl3 := lt_of_block GX3)
          refine hK.out _ _ trivial (fun hHz1q19 => ?_)
          clear hK K9
          try simp only [Act.put, List.setIfInBounds_toArray, List.set_cons_zero, List.set_cons_succ]
          refine wpAnyH_ready (rs := [1, 5]) (by kernel_rfl) (by simp) ?_
          refine AllReadyH.cons rfl (fun K9 hK => ?_) (AllReadyH.cons rfl (fun K9 hK => ?_) AllReadyH.nil)
          · skip
            go_simp
            refine hK.out _ _ trivial (fun hHz1q20 => ?_)
            clear hK K9
            try simp only [Act.put, List.setIfInBounds_toArray, List.set_cons_zero, List.set_cons_succ]
            refine wpAnyH_ready (rs := [5]) (by kernel_rfl) (by simp) ?_
            refine AllReadyH.cons rfl (fun K9 hK => ?_) AllReadyH.nil
            (go_simp; refine (l1Const_any y _).mono ?_; rintro e v4 ⟨pN, cN, rfl, hvN, hE9⟩; have D4 : Dr w6 g v4 := D3.ext hE9; have GX4 := hE9.blk GX3; have RES4 := hE9.blk RES3; obtain ⟨x0'', x1'', -, -⟩ := blk2 GX4; have hl4 := lt_of_block GX4; have hs9 := D4.size; have hs39 := D3.size)
            refine hK.out _ _ trivial (fun hHz1q21 => ?_)
            clear hK K9
            try simp only [Act.put, List.setIfInBounds_toArray, List.set_cons_zero, List.set_cons_succ]
            refine wpAnyH_ready (rs := [6]) (by kernel_rfl) (by simp) ?_
            refine AllReadyH.cons rfl (fun K9 hK => ?_) AllReadyH.nil
            go_simp
            refine hK.out _ _ trivial (fun hHz1q22 => ?_)
            clear hK K9
            try simp only [Act.put, List.setIfInBounds_toArray, List.set_cons_zero, List.set_cons_succ]
            refine wpAnyH_ready (rs := [7]) (by kernel_rfl) (by simp) ?_
            refine AllReadyH.cons rfl (fun K9 hK => ?_) AllReadyH.nil
            (have EN : Ext v4 (v4.alloc (.cells #[.slice pN 4 cN, .int .i64 y] 36)) := (Ext.refl v4).alloc _; obtain ⟨vs, ho, he⟩ := AffsOwn.ext (AffsOwn.dr SB6.out D4 hlg) EN; have hvl := ho.1; refine step_append_lies _ rfl (.tmp 46) (.tmp 51) 49 rfl w.heap.size 36 i1 (.agg #[.slice none 0 0, .int .i64 0]) 2 32 underSliceAff ha hy0 hy1 hy2 rfl (by decide) (.slice (some ⟨gs + 1, 0, none⟩) 1 1) 1 vs rfl ho ⟨v4.heap.size, 0, none⟩ 1 1 [.slice pN 4 cN, .int .i64 y] rfl rfl (pair_cells rfl) (by intro u hu; simp at hu; rcases hu with rfl | rfl <;> rfl) (by omega) (by unfold maxLen; omega) (by omega) (by simp <;> omega) _ rfl ?_; intro gn cn w7 hown' hgrow' hgeq' hltg; have htag := own_tag ho; have GX7 := blk_tag (EN.blk GX4) hgrow' htag (by decide); have RES7 := blk_tag (EN.blk RES4) hgrow' htag (by decide); have hres : AffsOwn w.heap.size w7 (.slice (some ⟨gn, 0, none⟩) 2 cn) ([([0, 0, 0, 0], x2)] ++ [([0, 0, 0, 0], y)]) := PairsOwn.push (R := AffO) (fun h a b => AffO.grow h a b) rfl he hvl hown' hgrow' htag ⟨(hvN.weak (by omega)).ext EN, rfl⟩; have hoth := AffsOwn.off (a := gs) (b := gs + 1) (AffsOwn.ext (AffsOwn.dr SA6.out D4 hlg) EN) hgrow' htag (show gs ≠ gs + 1 by omega); have D7 := ((D6.out.trans D4).ext EN).fresh hgrow' (fun b hb => (ho.lt b hb).1); have H7 := ((h8.ext hE9).ext EN).beside hgrow' (fun j e => by have := (ho.lt j e).1; omega); obtain ⟨z0, z1, k0, k1⟩ := blk2 GX7)
            refine hK.out _ _ trivial (fun hHz1q23 => ?_)
            clear hK K9
            try simp only [Act.put, List.setIfInBounds_toArray, List.set_cons_zero, List.set_cons_succ]
            refine wpAnyH_takeDw (some 53) (i := 8) (v := ?vz1q24) rfl (by kernel_rfl) (by kernel_rfl) (by kernel_rfl) (by kernel_rfl) (fun _ _ _ h => h) (Or.inl ⟨by rfl, ?hyz1q24⟩) (by assumption) ?rz1q24
            case hyz1q24 => intro w hSw; (try dsimp only at hSw); go_simp; first | done | with_reducible rfl
            case' rz1q24 => try simp only [Act.put, List.setIfInBounds_toArray, List.set_cons_zero, List.set_cons_succ]
            refine wpAnyH_ready (rs := [9]) (by kernel_rfl) (by simp) ?_
            refine AllReadyH.cons rfl (fun K9 hK => ?_) AllReadyH.nil
            go_simp
            refine hK.out _ _ trivial (fun hHz1q25 => ?_)
            clear hK K9
            try simp only [Act.put, List.setIfInBounds_toArray, List.set_cons_zero, List.set_cons_succ]
            refine wpAnyH_done (by kernel_rfl) ?_ _
            have G8 := Lib.hid (blk2_set1' (c := .slice (some ⟨gn, 0, none⟩) 2 cn) GX7)
            have R8 := Lib.hid (blk_off (o' := 1) (g' := gs + 1 + 1) RES7 (by omega) (.slice (some ⟨gn, 0, none⟩) 2 cn))
            have M8 := Lib.hid (AffsOwn.tag hres (grown_set w7 (gs + 1 + 1) 1 (.slice (some ⟨gn, 0, none⟩) 2 cn)) (Tag.blk GX7) (by decide) (by decide)); have O8 := Lib.hid (AffsOwn.tag hoth (grown_set w7 (gs + 1 + 1) 1 (.slice (some ⟨gn, 0, none⟩) 2 cn)) (Tag.blk GX7) (by decide) (by decide))
            have H8 := Lib.hid (H7.set (b := gs + 1 + 1) (o := 1) (by omega) (.slice (some ⟨gn, 0, none⟩) 2 cn)); have D8 := Lib.hid (D7.set (j := gs + 1 + 1) (o := 1) (by omega) (.slice (some ⟨gn, 0, none⟩) 2 cn))
            clear GX7 RES7 hres hoth H7 D7 z0 z1 k0 k1
            obtain ⟨x0f, x1f, -, -⟩ := blk2 G8.out
            obtain ⟨r0f, r1f, f0f, f1f⟩ := blk2 R8.out
            go_wp2
            refine bodyPost_ret (v := .agg #[.slice (some ⟨gs, 0, none⟩) 1 1, .slice (some ⟨gn, 0, none⟩) 2 cn]) (by simp [results, Try.results77, go_sem, r0f, r1f]) rfl ⟨⟨_, _, ([([0, 0, 0, 0], x1)], [([0, 0, 0, 0], x2)] ++ [([0, 0, 0, 0], y)]), rfl, ⟨AffsOwn.res O8.out R8.out, AffsOwn.res M8.out R8.out⟩, FourA.mono (FourA.one XL.out) (by omega), FourA.mono (FourA.push (FourA.one YL.out) rfl) (by omega)⟩, ?_, ?_⟩
            · exact ((H8.out.set (by omega) _).set (by omega) _).mono (by omega)
            · exact (D8.out.set (Nat.le_refl _) _).set (Nat.le_refl _) _
          · skip
            (go_simp; refine (l1Const_any y _).mono ?_; rintro e v4 ⟨pN, cN, rfl, hvN, hE9⟩; have D4 : Dr w6 g v4 := D3.ext hE9; have GX4 := hE9.blk GX3; have RES4 := hE9.blk RES3; obtain ⟨x0'', x1'', -, -⟩ := blk2 GX4; have hl4 := lt_of_block GX4; have hs9 := D4.size; have hs39 := D3.size)
            refine hK.out _ _ trivial (fun hHz1q26 => ?_)
            clear hK K9
            try simp only [Act.put, List.setIfInBounds_toArray, List.set_cons_zero, List.set_cons_succ]
            refine wpAnyH_ready (rs := [1, 6]) (by kernel_rfl) (by simp) ?_
            refine AllReadyH.cons rfl (fun K9 hK => ?_) (AllReadyH.cons rfl (fun K9 hK => ?_) AllReadyH.nil)
            · skip
              go_simp
              refine hK.out _ _ trivial (fun hHz1q27 => ?_)
              clear hK K9
              try simp only [Act.put, List.setIfInBounds_toArray, List.set_cons_zero, List.set_cons_succ]
              refine wpAnyH_ready (rs := [6]) (by kernel_rfl) (by simp) ?_
              refine AllReadyH.cons rfl (fun K9 hK => ?_) AllReadyH.nil
              go_simp
              refine hK.out _ _ trivial (fun hHz1q28 => ?_)
              clear hK K9
              try simp only [Act.put, List.setIfInBounds_toArray, List.set_cons_zero, List.set_cons_succ]
              refine wpAnyH_ready (rs := [7]) (by kernel_rfl) (by simp) ?_
              refine AllReadyH.cons rfl (fun K9 hK => ?_) AllReadyH.nil
              (have EN : Ext v4 (v4.alloc (.cells #[.slice pN 4 cN, .int .i64 y] 36)) := (Ext.refl v4).alloc _; obtain ⟨vs, ho, he⟩ := AffsOwn.ext (AffsOwn.dr SB6.out D4 hlg) EN; have hvl := ho.1; refine step_append_lies _ rfl (.tmp 46) (.tmp 51) 49 rfl w.heap.size 36 i1 (.agg #[.slice none 0 0, .int .i64 0]) 2 32 underSliceAff ha hy0 hy1 hy2 rfl (by decide) (.slice (some ⟨gs + 1, 0, none⟩) 1 1) 1 vs rfl ho ⟨v4.heap.size, 0, none⟩ 1 1 [.slice pN 4 cN, .int .i64 y] rfl rfl (pair_cells rfl) (by intro u hu; simp at hu; rcases hu with rfl | rfl <;> rfl) (by omega) (by unfold maxLen; omega) (by omega) (by simp <;> omega) _ rfl ?_; intro gn cn w7 hown' hgrow' hgeq' hltg; have htag := own_tag ho; have GX7 := blk_tag (EN.blk GX4) hgrow' htag (by decide); have RES7 := blk_tag (EN.blk RES4) hgrow' htag (by decide); have hres : AffsOwn w.heap.size w7 (.slice (some ⟨gn, 0, none⟩) 2 cn) ([([0, 0, 0, 0], x2)] ++ [([0, 0, 0, 0], y)]) := PairsOwn.push (R := AffO) (fun h a b => AffO.grow h a b) rfl he hvl hown' hgrow' htag ⟨(hvN.weak (by omega)).ext EN, rfl⟩; have hoth := AffsOwn.off (a := gs) (b := gs + 1) (AffsOwn.ext (AffsOwn.dr SA6.out D4 hlg) EN) hgrow' htag (show gs ≠ gs + 1 by omega); have D7 := ((D6.out.trans D4).ext EN).fresh hgrow' (fun b hb => (ho.lt b hb).1); have H7 := ((h8.ext hE9).ext EN).beside hgrow' (fun j e => by have := (ho.lt j e).1; omega); obtain ⟨z0, z1, k0, k1⟩ := blk2 GX7)
              refine hK.out _ _ trivial (fun hHz1q29 => ?_)
              clear hK K9
              try simp only [Act.put, List.setIfInBounds_toArray, List.set_cons_zero, List.set_cons_succ]
              refine wpAnyH_takeDw (some 53) (i := 8) (v := ?vz1q30) rfl (by kernel_rfl) (by kernel_rfl) (by kernel_rfl) (by kernel_rfl) (fun _ _ _ h => h) (Or.inl ⟨by rfl, ?hyz1q30⟩) (by assumption) ?rz1q30
              case hyz1q30 => intro w hSw; (try dsimp only at hSw); go_simp; first | done | with_reducible rfl
              case' rz1q30 => try simp only [Act.put, List.setIfInBounds_toArray, List.set_cons_zero, List.set_cons_succ]
              refine wpAnyH_ready (rs := [9]) (by kernel_rfl) (by simp) ?_
              refine AllReadyH.cons rfl (fun K9 hK => ?_) AllReadyH.nil
              go_simp
              refine hK.out _ _ trivial (fun hHz1q31 => ?_)
              clear hK K9
              try simp only [Act.put, List.setIfInBounds_toArray, List.set_cons_zero, List.set_cons_succ]
              refine wpAnyH_done (by kernel_rfl) ?_ _
              have G8 := Lib.hid (blk2_set1' (c := .slice (some ⟨gn, 0, none⟩) 2 cn) GX7)
              have R8 := Lib.hid (blk_off (o' := 1) (g' := gs + 1 + 1) RES7 (by omega) (.slice (some ⟨gn, 0, none⟩) 2 cn))
              have M8 := Lib.hid (AffsOwn.tag hres (grown_set w7 (gs + 1 + 1) 1 (.slice (some ⟨gn, 0, none⟩) 2 cn)) (Tag.blk GX7) (by decide) (by decide)); have O8 := Lib.hid (AffsOwn.tag hoth (grown_set w7 (gs + 1 + 1) 1 (.slice (some ⟨gn, 0, none⟩) 2 cn)) (Tag.blk GX7) (by decide) (by decide))
              have H8 := Lib.hid (H7.set (b := gs + 1 + 1) (o := 1) (by omega) (.slice (some ⟨gn, 0, none⟩) 2 cn)); have D8 := Lib.hid (D7.set (j := gs + 1 + 1) (o := 1) (by omega) (.slice (some ⟨gn, 0, none⟩) 2 cn))
              clear GX7 RES7 hres hoth H7 D7 z0 z1 k0 k1
              obtain ⟨x0f, x1f, -, -⟩ := blk2 G8.out
              obtain ⟨r0f, r1f, f0f, f1f⟩ := blk2 R8.out
              go_wp2
              refine bodyPost_ret (v := .agg #[.slice (some ⟨gs, 0, none⟩) 1 1, .slice (some ⟨gn, 0, none⟩) 2 cn]) (by simp [results, Try.results77, go_sem, r0f, r1f]) rfl ⟨⟨_, _, ([([0, 0, 0, 0], x1)], [([0, 0, 0, 0], x2)] ++ [([0, 0, 0, 0], y)]), rfl, ⟨AffsOwn.res O8.out R8.out, AffsOwn.res M8.out R8.out⟩, FourA.mono (FourA.one XL.out) (by omega), FourA.mono (FourA.push (FourA.one YL.out) rfl) (by omega)⟩, ?_, ?_⟩
              · exact ((H8.out.set (by omega) _).set (by omega) _).mono (by omega)
              · exact (D8.out.set (Nat.le_refl _) _).set (Nat.le_refl _) _
            · skip
              go_simp
              refine hK.out _ _ trivial (fun hHz1q32 => ?_)
              clear hK K9
              try simp only [Act.put, List.setIfInBounds_toArray, List.set_cons_zero, List.set_cons_succ]
              refine wpAnyH_ready (rs := [1]) (by kernel_rfl) (by simp) ?_
              refine AllReadyH.cons rfl (fun K9 hK => ?_) AllReadyH.nil
              go_simp
              refine hK.out _ _ trivial (fun hHz1q33 => ?_)
              clear hK K9
              try simp only [Act.put, List.setIfInBounds_toArray, List.set_cons_zero, List.set_cons_succ]
              refine wpAnyH_ready (rs := [7]) (by kernel_rfl) (by simp) ?_
              refine AllReadyH.cons rfl (fun K9 hK => ?_) AllReadyH.nil
              (have EN : Ext v4 (v4.alloc (.cells #[.slice pN 4 cN, .int .i64 y] 36)) := (Ext.refl v4).alloc _; obtain ⟨vs, ho, he⟩ := AffsOwn.ext (AffsOwn.dr SB6.out D4 hlg) EN; have hvl := ho.1; refine step_append_lies _ rfl (.tmp 46) (.tmp 51) 49 rfl w.heap.size 36 i1 (.agg #[.slice none 0 0, .int .i64 0]) 2 32 underSliceAff ha hy0 hy1 hy2 rfl (by decide) (.slice (some ⟨gs + 1, 0, none⟩) 1 1) 1 vs rfl ho ⟨v4.heap.size, 0, none⟩ 1 1 [.slice pN 4 cN, .int .i64 y] rfl rfl (pair_cells rfl) (by intro u hu; simp at hu; rcases hu with rfl | rfl <;> rfl) (by omega) (by unfold maxLen; omega) (by omega) (by simp <;> omega) _ rfl ?_; intro gn cn w7 hown' hgrow' hgeq' hltg; have htag := own_tag ho; have GX7 := blk_tag (EN.blk GX4) hgrow' htag (by decide); have RES7 := blk_tag (EN.blk RES4) hgrow' htag (by decide); have hres : AffsOwn w.heap.size w7 (.slice (some ⟨gn, 0, none⟩) 2 cn) ([([0, 0, 0, 0], x2)] ++ [([0, 0, 0, 0], y)]) := PairsOwn.push (R := AffO) (fun h a b => AffO.grow h a b) rfl he hvl hown' hgrow' htag ⟨(hvN.weak (by omega)).ext EN, rfl⟩; have hoth := AffsOwn.off (a := gs) (b := gs + 1) (AffsOwn.ext (AffsOwn.dr SA6.out D4 hlg) EN) hgrow' htag (show gs ≠ gs + 1 by omega); have D7 := ((D6.out.trans D4).ext EN).fresh hgrow' (fun b hb => (ho.lt b hb).1); have H7 := ((h8.ext hE9).ext EN).beside hgrow' (fun j e => by have := (ho.lt j e).1; omega); obtain ⟨z0, z1, k0, k1⟩ := blk2 GX7)
              refine hK.out _ _ trivial (fun hHz1q34 => ?_)
              clear hK K9
              try simp only [Act.put, List.setIfInBounds_toArray, List.set_cons_zero, List.set_cons_succ]
              refine wpAnyH_takeDw (some 53) (i := 8) (v := ?vz1q35) rfl (by kernel_rfl) (by kernel_rfl) (by kernel_rfl) (by kernel_rfl) (fun _ _ _ h => h) (Or.inl ⟨by rfl, ?hyz1q35⟩) (by assumption) ?rz1q35
              case hyz1q35 => intro w hSw; (try dsimp only at hSw); go_simp; first | done | with_reducible rfl
              case' rz1q35 => try simp only [Act.put, List.setIfInBounds_toArray, List.set_cons_zero, List.set_cons_succ]
              refine wpAnyH_ready (rs := [9]) (by kernel_rfl) (by simp) ?_
              refine AllReadyH.cons rfl (fun K9 hK => ?_) AllReadyH.nil
              go_simp
              refine hK.out _ _ trivial (fun hHz1q36 => ?_)
              clear hK K9
              try simp only [Act.put, List.setIfInBounds_toArray, List.set_cons_zero, List.set_cons_succ]
              refine wpAnyH_done (by kernel_rfl) ?_ _
              have G8 := Lib.hid (blk2_set1' (c := .slice (some ⟨gn, 0, none⟩) 2 cn) GX7)
              have R8 := Lib.hid (blk_off (o' := 1) (g' := gs + 1 + 1) RES7 (by omega) (.slice (some ⟨gn, 0, none⟩) 2 cn))
              have M8 := Lib.hid (AffsOwn.tag hres (grown_set w7 (gs + 1 + 1) 1 (.slice (some ⟨gn, 0, none⟩) 2 cn)) (Tag.blk GX7) (by decide) (by decide)); have O8 := Lib.hid (AffsOwn.tag hoth (grown_set w7 (gs + 1 + 1) 1 (.slice (some ⟨gn, 0, none⟩) 2 cn)) (Tag.blk GX7) (by decide) (by decide))
              have H8 := Lib.hid (H7.set (b := gs + 1 + 1) (o := 1) (by omega) (.slice (some ⟨gn, 0, none⟩) 2 cn)); have D8 := Lib.hid (D7.set (j := gs + 1 + 1) (o := 1) (by omega) (.slice (some ⟨gn, 0, none⟩) 2 cn))
              clear GX7 RES7 hres hoth H7 D7 z0 z1 k0 k1
              obtain ⟨x0f, x1f, -, -⟩ := blk2 G8.out
              obtain ⟨r0f, r1f, f0f, f1f⟩ := blk2 R8.out
              go_wp2
              refine bodyPost_ret (v := .agg #[.slice (some ⟨gs, 0, none⟩) 1 1, .slice (some ⟨gn, 0, none⟩) 2 cn]) (by simp [results, Try.results77, go_sem, r0f, r1f]) rfl ⟨⟨_, _, ([([0, 0, 0, 0], x1)], [([0, 0, 0, 0], x2)] ++ [([0, 0, 0, 0], y)]), rfl, ⟨AffsOwn.res O8.out R8.out, AffsOwn.res M8.out R8.out⟩, FourA.mono (FourA.one XL.out) (by omega), FourA.mono (FourA.push (FourA.one YL.out) rfl) (by omega)⟩, ?_, ?_⟩
              · exact ((H8.out.set (by omega) _).set (by omega) _).mono (by omega)
              · exact (D8.out.set (Nat.le_refl _) _).set (Nat.le_refl _) _
    have hb60 : ((r6 : Int) == 0) = false := by simp [h60]
    clear h60
    by_cases h61 : r6 = 1
    · subst h61
      obtain ⟨xc0, xc1, -, -⟩ := blk2 GX.out
      have HLit := Lib.hid (show ((w6.alloc (.cells #[.int .i64 0, .int .i64 1] 3)).drew).heap[w6.heap.size]? = some (.cells (([0, 1] : List Int).map (Value.int .i64)).toArray 3 (0, 0)) from blk_at rfl)
      go_wp2_with (fail)
      refine wp_region_held_drew (S := (fun _ => True)) (by kernel_rfl) trivial (fun hHeld => ?_)
      refine wpAnyH_takeDw (some 56) (i := 0) (v := ?vz2q1) rfl (by kernel_rfl) (by kernel_rfl) (by kernel_rfl) (by kernel_rfl) (fun _ _ _ h => h) (Or.inl ⟨by rfl, ?hyz2q1⟩) (by assumption) ?rz2q1
      case hyz2q1 => intro w hSw; (try dsimp only at hSw); go_simp; first | done | with_reducible rfl
      case' rz2q1 => try simp only [Act.put, List.setIfInBounds_toArray, List.set_cons_zero, List.set_cons_succ]
      refine wpAnyH_takeDw (some 58) (i := 2) (v := ?vz2q2) rfl (by kernel_rfl) (by kernel_rfl) (by kernel_rfl) (by kernel_rfl) (fun _ _ _ h => h) (Or.inl ⟨by rfl, ?hyz2q2⟩) (by assumption) ?rz2q2
      case hyz2q2 => intro w hSw; (try dsimp only at hSw); go_simp; first | done | with_reducible rfl
      case' rz2q2 => try simp only [Act.put, List.setIfInBounds_toArray, List.set_cons_zero, List.set_cons_succ]
      refine wpAnyH_ready (rs := [1, 3]) (by kernel_rfl) (by simp) ?_
      refine AllReadyH.cons rfl (fun K9 hK => ?_) (AllReadyH.cons rfl (fun K9 hK => ?_) AllReadyH.nil)
      · skip
        go_simp
        refine hK.out _ _ trivial (fun hHz2q3 => ?_)
        clear hK K9
        try simp only [Act.put, List.setIfInBounds_toArray, List.set_cons_zero, List.set_cons_succ]
        refine wpAnyH_ready (rs := [3]) (by kernel_rfl) (by simp) ?_
        refine AllReadyH.cons rfl (fun K9 hK => ?_) AllReadyH.nil
        go_simp
        refine hK.out _ _ trivial (fun hHz2q4 => ?_)
        clear hK K9
        try simp only [Act.put, List.setIfInBounds_toArray, List.set_cons_zero, List.set_cons_succ]
        refine wpAnyH_ready (rs := [4]) (by kernel_rfl) (by simp) ?_
        refine AllReadyH.cons rfl (fun K9 hK => ?_) AllReadyH.nil
        (go_simp; refine (num_any W g (K + 2 + 1) w6.heap.size 2 [0, 1] _ (H6.out.ext (((Ext.refl w6).alloc _).drew)) (by omega) rfl (by omega) (by omega) HLit.out (by omega)).mono ?_; rintro e v3 ⟨⟨y, rfl, -⟩, h8, h9⟩; have D3 : Dr w6 g v3 := (((Dr.refl w6 g).alloc _).drew).trans h9; have GX3 := blk_dr GX.out D3 (by omega); have RES3 := blk_dr RES.out D3 (by omega); obtain ⟨x0', x1', -, -⟩ := blk2 GX3; have hl3 := lt_of_block GX3)
        refine hK.out _ _ trivial (fun hHz2q5 => ?_)
        clear hK K9
        try simp only [Act.put, List.setIfInBounds_toArray, List.set_cons_zero, List.set_cons_succ]
        refine wpAnyH_ready (rs := [5]) (by kernel_rfl) (by simp) ?_
        refine AllReadyH.cons rfl (fun K9 hK => ?_) AllReadyH.nil
        (go_simp; refine (l1Const_any y _).mono ?_; rintro e v4 ⟨pN, cN, rfl, hvN, hE9⟩; have D4 : Dr w6 g v4 := D3.ext hE9; have GX4 := hE9.blk GX3; have RES4 := hE9.blk RES3; obtain ⟨x0'', x1'', -, -⟩ := blk2 GX4; have hl4 := lt_of_block GX4; have hs9 := D4.size; have hs39 := D3.size)
        refine hK.out _ _ trivial (fun hHz2q6 => ?_)
        clear hK K9
        try simp only [Act.put, List.setIfInBounds_toArray, List.set_cons_zero, List.set_cons_succ]
        refine wpAnyH_ready (rs := [6]) (by kernel_rfl) (by simp) ?_
        refine AllReadyH.cons rfl (fun K9 hK => ?_) AllReadyH.nil
        go_simp
        refine hK.out _ _ trivial (fun hHz2q7 => ?_)
        clear hK K9
        try simp only [Act.put, List.setIfInBounds_toArray, List.set_cons_zero, List.set_cons_succ]
        refine wpAnyH_ready (rs := [7]) (by kernel_rfl) (by simp) ?_
        refine AllReadyH.cons rfl (fun K9 hK => ?_) AllReadyH.nil
        (have EN : Ext v4 (v4.alloc (.cells #[.slice pN 4 cN, .int .i64 y] 36)) := (Ext.refl v4).alloc _; obtain ⟨vs, ho, he⟩ := AffsOwn.ext (AffsOwn.dr SA6.out D4 hlg) EN; have hvl := ho.1; refine step_append_lies _ rfl (.tmp 57) (.tmp 62) 49 rfl w.heap.size 36 i1 (.agg #[.slice none 0 0, .int .i64 0]) 2 32 underSliceAff ha hy0 hy1 hy2 rfl (by decide) (.slice (some ⟨gs, 0, none⟩) 1 1) 1 vs rfl ho ⟨v4.heap.size, 0, none⟩ 1 1 [.slice pN 4 cN, .int .i64 y] rfl rfl (pair_cells rfl) (by intro u hu; simp at hu; rcases hu with rfl | rfl <;> rfl) (by omega) (by unfold maxLen; omega) (by omega) (by simp <;> omega) _ rfl ?_; intro gn cn w7 hown' hgrow' hgeq' hltg; have htag := own_tag ho; have GX7 := blk_tag (EN.blk GX4) hgrow' htag (by decide); have RES7 := blk_tag (EN.blk RES4) hgrow' htag (by decide); have hres : AffsOwn w.heap.size w7 (.slice (some ⟨gn, 0, none⟩) 2 cn) ([([0, 0, 0, 0], x1)] ++ [([0, 0, 0, 0], y)]) := PairsOwn.push (R := AffO) (fun h a b => AffO.grow h a b) rfl he hvl hown' hgrow' htag ⟨(hvN.weak (by omega)).ext EN, rfl⟩; have hoth := AffsOwn.off (a := gs + 1) (b := gs) (AffsOwn.ext (AffsOwn.dr SB6.out D4 hlg) EN) hgrow' htag (show gs + 1 ≠ gs by omega); have D7 := ((D6.out.trans D4).ext EN).fresh hgrow' (fun b hb => (ho.lt b hb).1); have H7 := ((h8.ext hE9).ext EN).beside hgrow' (fun j e => by have := (ho.lt j e).1; omega); obtain ⟨z0, z1, k0, k1⟩ := blk2 GX7)
        refine hK.out _ _ trivial (fun hHz2q8 => ?_)
        clear hK K9
        try simp only [Act.put, List.setIfInBounds_toArray, List.set_cons_zero, List.set_cons_succ]
        refine wpAnyH_takeDw (some 64) (i := 8) (v := ?vz2q9) rfl (by kernel_rfl) (by kernel_rfl) (by kernel_rfl) (by kernel_rfl) (fun _ _ _ h => h) (Or.inl ⟨by rfl, ?hyz2q9⟩) (by assumption) ?rz2q9
        case hyz2q9 => intro w hSw; (try dsimp only at hSw); go_simp; first | done | with_reducible rfl
        case' rz2q9 => try simp only [Act.put, List.setIfInBounds_toArray, List.set_cons_zero, List.set_cons_succ]
        refine wpAnyH_ready (rs := [9]) (by kernel_rfl) (by simp) ?_
        refine AllReadyH.cons rfl (fun K9 hK => ?_) AllReadyH.nil
        go_simp
        refine hK.out _ _ trivial (fun hHz2q10 => ?_)
        clear hK K9
        try simp only [Act.put, List.setIfInBounds_toArray, List.set_cons_zero, List.set_cons_succ]
        refine wpAnyH_done (by kernel_rfl) ?_ _
        have G8 := Lib.hid (blk2_set0' (c := .slice (some ⟨gn, 0, none⟩) 2 cn) GX7)
        have R8 := Lib.hid (blk_off (o' := 0) (g' := gs + 1 + 1) RES7 (by omega) (.slice (some ⟨gn, 0, none⟩) 2 cn))
        have M8 := Lib.hid (AffsOwn.tag hres (grown_set w7 (gs + 1 + 1) 0 (.slice (some ⟨gn, 0, none⟩) 2 cn)) (Tag.blk GX7) (by decide) (by decide)); have O8 := Lib.hid (AffsOwn.tag hoth (grown_set w7 (gs + 1 + 1) 0 (.slice (some ⟨gn, 0, none⟩) 2 cn)) (Tag.blk GX7) (by decide) (by decide))
        have H8 := Lib.hid (H7.set (b := gs + 1 + 1) (o := 0) (by omega) (.slice (some ⟨gn, 0, none⟩) 2 cn)); have D8 := Lib.hid (D7.set (j := gs + 1 + 1) (o := 0) (by omega) (.slice (some ⟨gn, 0, none⟩) 2 cn))
        clear GX7 RES7 hres hoth H7 D7 z0 z1 k0 k1
        obtain ⟨x0f, x1f, -, -⟩ := blk2 G8.out
        obtain ⟨r0f, r1f, f0f, f1f⟩ := blk2 R8.out
        go_wp2
        refine bodyPost_ret (v := .agg #[.slice (some ⟨gn, 0, none⟩) 2 cn, .slice (some ⟨gs + 1, 0, none⟩) 1 1]) (by simp [results, Try.results77, go_sem, r0f, r1f]) rfl ⟨⟨_, _, ([([0, 0, 0, 0], x1)] ++ [([0, 0, 0, 0], y)], [([0, 0, 0, 0], x2)]), rfl, ⟨AffsOwn.res M8.out R8.out, AffsOwn.res O8.out R8.out⟩, FourA.mono (FourA.push (FourA.one XL.out) rfl) (by omega), FourA.mono (FourA.one YL.out) (by omega)⟩, ?_, ?_⟩
        · exact ((H8.out.set (by omega) _).set (by omega) _).mono (by omega)
        · exact (D8.out.set (Nat.le_refl _) _).set (Nat.le_refl _) _
      · skip
        go_simp
        refine hK.out _ _ trivial (fun hHz2q11 => ?_)
        clear hK K9
        try simp only [Act.put, List.setIfInBounds_toArray, List.set_cons_zero, List.set_cons_succ]
        refine wpAnyH_ready (rs := [1, 4]) (by kernel_rfl) (by simp) ?_
        refine AllReadyH.cons rfl (fun K9 hK => ?_) (AllReadyH.cons rfl (fun K9 hK => ?_) AllReadyH.nil)
        · skip
          go_simp
          refine hK.out _ _ trivial (fun hHz2q12 => ?_)
          clear hK K9
          try simp only [Act.put, List.setIfInBounds_toArray, List.set_cons_zero, List.set_cons_succ]
          refine wpAnyH_ready (rs := [4]) (by kernel_rfl) (by simp) ?_
          refine AllReadyH.cons rfl (fun K9 hK => ?_) AllReadyH.nil
          (go_simp; refine (num_any W g (K + 2 + 1) w6.heap.size 2 [0, 1] _ (H6.out.ext (((Ext.refl w6).alloc _).drew)) (by omega) rfl (by omega) (by omega) HLit.out (by omega)).mono ?_; rintro e v3 ⟨⟨y, rfl, -⟩, h8, h9⟩; have D3 : Dr w6 g v3 := (((Dr.refl w6 g).alloc _).drew).trans h9; have GX3 := blk_dr GX.out D3 (by omega); have RES3 := blk_dr RES.out D3 (by omega); obtain ⟨x0', x1', -, -⟩ := blk2 GX3; have hl3 := lt_of_block GX3)
          refine hK.out _ _ trivial (fun hHz2q13 => ?_)
          clear hK K9
          try simp only [Act.put, List.setIfInBounds_toArray, List.set_cons_zero, List.set_cons_succ]
          refine wpAnyH_ready (rs := [5]) (by kernel_rfl) (by simp) ?_
          refine AllReadyH.cons rfl (fun K9 hK => ?_) AllReadyH.nil
          (go_simp; refine (l1Const_any y _).mono ?_; rintro e v4 ⟨pN, cN, rfl, hvN, hE9⟩; have D4 : Dr w6 g v4 := D3.ext hE9; have GX4 := hE9.blk GX3; have RES4 := hE9.blk RES3; obtain ⟨x0'', x1'', -, -⟩ := blk2 GX4; have hl4 := lt_of_block GX4; have hs9 := D4.size; have hs39 := D3.size)
          refine hK.out _ _ trivial (fun hHz2q14 => ?_)
          clear hK K9
          try simp only [Act.put, List.setIfInBounds_toArray, List.set_cons_zero, List.set_cons_succ]
          refine wpAnyH_ready (rs := [6]) (by kernel_rfl) (by simp) ?_
          refine AllReadyH.cons rfl (fun K9 hK => ?_) AllReadyH.nil
          go_simp
          refine hK.out _ _ trivial (fun hHz2q15 => ?_)
          clear hK K9
          try simp only [Act.put, List.setIfInBounds_toArray, List.set_cons_zero, List.set_cons_succ]
          refine wpAnyH_ready (rs := [7]) (by kernel_rfl) (by simp) ?_
          refine AllReadyH.cons rfl (fun K9 hK => ?_) AllReadyH.nil
          (have EN : Ext v4 (v4.alloc (.cells #[.slice pN 4 cN, .int .i64 y] 36)) := (Ext.refl v4).alloc _; obtain ⟨vs, ho, he⟩ := AffsOwn.ext (AffsOwn.dr SA6.out D4 hlg) EN; have hvl := ho.1; refine step_append_lies _ rfl (.tmp 57) (.tmp 62) 49 rfl w.heap.size 36 i1 (.agg #[.slice none 0 0, .int .i64 0]) 2 32 underSliceAff ha hy0 hy1 hy2 rfl (by decide) (.slice (some ⟨gs, 0, none⟩) 1 1) 1 vs rfl ho ⟨v4.heap.size, 0, none⟩ 1 1 [.slice pN 4 cN, .int .i64 y] rfl rfl (pair_cells rfl) (by intro u hu; simp at hu; rcases hu with rfl | rfl <;> rfl) (by omega) (by unfold maxLen; omega) (by omega) (by simp <;> omega) _ rfl ?_; intro gn cn w7 hown' hgrow' hgeq' hltg; have htag := own_tag ho; have GX7 := blk_tag (EN.blk GX4) hgrow' htag (by decide); have RES7 := blk_tag (EN.blk RES4) hgrow' htag (by decide); have hres : AffsOwn w.heap.size w7 (.slice (some ⟨gn, 0, none⟩) 2 cn) ([([0, 0, 0, 0], x1)] ++ [([0, 0, 0, 0], y)]) := PairsOwn.push (R := AffO) (fun h a b => AffO.grow h a b) rfl he hvl hown' hgrow' htag ⟨(hvN.weak (by omega)).ext EN, rfl⟩; have hoth := AffsOwn.off (a := gs + 1) (b := gs) (AffsOwn.ext (AffsOwn.dr SB6.out D4 hlg) EN) hgrow' htag (show gs + 1 ≠ gs by omega); have D7 := ((D6.out.trans D4).ext EN).fresh hgrow' (fun b hb => (ho.lt b hb).1); have H7 := ((h8.ext hE9).ext EN).beside hgrow' (fun j e => by have := (ho.lt j e).1; omega); obtain ⟨z0, z1, k0, k1⟩ := blk2 GX7)
          refine hK.out _ _ trivial (fun hHz2q16 => ?_)
          clear hK K9
          try simp only [Act.put, List.setIfInBounds_toArray, List.set_cons_zero, List.set_cons_succ]
          refine wpAnyH_takeDw (some 64) (i := 8) (v := ?vz2q17) rfl (by kernel_rfl) (by kernel_rfl) (by kernel_rfl) (by kernel_rfl) (fun _ _ _ h => h) (Or.inl ⟨by rfl, ?hyz2q17⟩) (by assumption) ?rz2q17
          case hyz2q17 => intro w hSw; (try dsimp only at hSw); go_simp; first | done | with_reducible rfl
          case' rz2q17 => try simp only [Act.put, List.setIfInBounds_toArray, List.set_cons_zero, List.set_cons_succ]
          refine wpAnyH_ready (rs := [9]) (by kernel_rfl) (by simp) ?_
          refine AllReadyH.cons rfl (fun K9 hK => ?_) AllReadyH.nil
          go_simp
          refine hK.out _ _ trivial (fun hHz2q18 => ?_)
          clear hK K9
          try simp only [Act.put, List.setIfInBounds_toArray, List.set_cons_zero, List.set_cons_succ]
          refine wpAnyH_done (by kernel_rfl) ?_ _
          have G8 := Lib.hid (blk2_set0' (c := .slice (some ⟨gn, 0, none⟩) 2 cn) GX7)
          have R8 := Lib.hid (blk_off (o' := 0) (g' := gs + 1 + 1) RES7 (by omega) (.slice (some ⟨gn, 0, none⟩) 2 cn))
          have M8 := Lib.hid (AffsOwn.tag hres (grown_set w7 (gs + 1 + 1) 0 (.slice (some ⟨gn, 0, none⟩) 2 cn)) (Tag.blk GX7) (by decide) (by decide)); have O8 := Lib.hid (AffsOwn.tag hoth (grown_set w7 (gs + 1 + 1) 0 (.slice (some ⟨gn, 0, none⟩) 2 cn)) (Tag.blk GX7) (by decide) (by decide))
          have H8 := Lib.hid (H7.set (b := gs + 1 + 1) (o := 0) (by omega) (.slice (some ⟨gn, 0, none⟩) 2 cn)); have D8 := Lib.hid (D7.set (j := gs + 1 + 1) (o := 0) (by omega) (.slice (some ⟨gn, 0, none⟩) 2 cn))
          clear GX7 RES7 hres hoth H7 D7 z0 z1 k0 k1
          obtain ⟨x0f, x1f, -, -⟩ := blk2 G8.out
          obtain ⟨r0f, r1f, f0f, f1f⟩ := blk2 R8.out
          go_wp2
          refine bodyPost_ret (v := .agg #[.slice (some ⟨gn, 0, none⟩) 2 cn, .slice (some ⟨gs + 1, 0, none⟩) 1 1]) (by simp [results, Try.results77, go_sem, r0f, r1f]) rfl ⟨⟨_, _, ([([0, 0, 0, 0], x1)] ++ [([0, 0, 0, 0], y)], [([0, 0, 0, 0], x2)]), rfl, ⟨AffsOwn.res M8.out R8.out, AffsOwn.res O8.out R8.out⟩, FourA.mono (FourA.push (FourA.one XL.out) rfl) (by omega), FourA.mono (FourA.one YL.out) (by omega)⟩, ?_, ?_⟩
          · exact ((H8.out.set (by omega) _).set (by omega) _).mono (by omega)
          · exact (D8.out.set (Nat.le_refl _) _).set (Nat.le_refl _) _
        · skip
          (go_simp; refine (num_any W g (K + 2 + 1) w6.heap.size 2 [0, 1] _ (H6.out.ext (((Ext.refl w6).alloc _).drew)) (by omega) rfl (by omega) (by omega) HLit.out (by omega)).mono ?_; rintro e v3 ⟨⟨y, rfl, -⟩, h8, h9⟩; have D3 : Dr w6 g v3 := (((Dr.refl w6 g).alloc _).drew).trans h9; have GX3 := blk_dr GX.out D3 (by omega); have RES3 := blk_dr RES.out D3 (by omega); obtain ⟨x0', x1', -, -⟩ := blk2 GX3; have hl3 := lt_of_block GX3)
          refine hK.out _ _ trivial (fun hHz2q19 => ?_)
          clear hK K9
          try simp only [Act.put, List.setIfInBounds_toArray, List.set_cons_zero, List.set_cons_succ]
          refine wpAnyH_ready (rs := [1, 5]) (by kernel_rfl) (by simp) ?_
          refine AllReadyH.cons rfl (fun K9 hK => ?_) (AllReadyH.cons rfl (fun K9 hK => ?_) AllReadyH.nil)
          · skip
            go_simp
            refine hK.out _ _ trivial (fun hHz2q20 => ?_)
            clear hK K9
            try simp only [Act.put, List.setIfInBounds_toArray, List.set_cons_zero, List.set_cons_succ]
            refine wpAnyH_ready (rs := [5]) (by kernel_rfl) (by simp) ?_
            refine AllReadyH.cons rfl (fun K9 hK => ?_) AllReadyH.nil
            (go_simp; refine (l1Const_any y _).mono ?_; rintro e v4 ⟨pN, cN, rfl, hvN, hE9⟩; have D4 : Dr w6 g v4 := D3.ext hE9; have GX4 := hE9.blk GX3; have RES4 := hE9.blk RES3; obtain ⟨x0'', x1'', -, -⟩ := blk2 GX4; have hl4 := lt_of_block GX4; have hs9 := D4.size; have hs39 := D3.size)
            refine hK.out _ _ trivial (fun hHz2q21 => ?_)
            clear hK K9
            try simp only [Act.put, List.setIfInBounds_toArray, List.set_cons_zero, List.set_cons_succ]
            refine wpAnyH_ready (rs := [6]) (by kernel_rfl) (by simp) ?_
            refine AllReadyH.cons rfl (fun K9 hK => ?_) AllReadyH.nil
            go_simp
            refine hK.out _ _ trivial (fun hHz2q22 => ?_)
            clear hK K9
            try simp only [Act.put, List.setIfInBounds_toArray, List.set_cons_zero, List.set_cons_succ]
            refine wpAnyH_ready (rs := [7]) (by kernel_rfl) (by simp) ?_
            refine AllReadyH.cons rfl (fun K9 hK => ?_) AllReadyH.nil
            (have EN : Ext v4 (v4.alloc (.cells #[.slice pN 4 cN, .int .i64 y] 36)) := (Ext.refl v4).alloc _; obtain ⟨vs, ho, he⟩ := AffsOwn.ext (AffsOwn.dr SA6.out D4 hlg) EN; have hvl := ho.1; refine step_append_lies _ rfl (.tmp 57) (.tmp 62) 49 rfl w.heap.size 36 i1 (.agg #[.slice none 0 0, .int .i64 0]) 2 32 underSliceAff ha hy0 hy1 hy2 rfl (by decide) (.slice (some ⟨gs, 0, none⟩) 1 1) 1 vs rfl ho ⟨v4.heap.size, 0, none⟩ 1 1 [.slice pN 4 cN, .int .i64 y] rfl rfl (pair_cells rfl) (by intro u hu; simp at hu; rcases hu with rfl | rfl <;> rfl) (by omega) (by unfold maxLen; omega) (by omega) (by simp <;> omega) _ rfl ?_; intro gn cn w7 hown' hgrow' hgeq' hltg; have htag := own_tag ho; have GX7 := blk_tag (EN.blk GX4) hgrow' htag (by decide); have RES7 := blk_tag (EN.blk RES4) hgrow' htag (by decide); have hres : AffsOwn w.heap.size w7 (.slice (some ⟨gn, 0, none⟩) 2 cn) ([([0, 0, 0, 0], x1)] ++ [([0, 0, 0, 0], y)]) := PairsOwn.push (R := AffO) (fun h a b => AffO.grow h a b) rfl he hvl hown' hgrow' htag ⟨(hvN.weak (by omega)).ext EN, rfl⟩; have hoth := AffsOwn.off (a := gs + 1) (b := gs) (AffsOwn.ext (AffsOwn.dr SB6.out D4 hlg) EN) hgrow' htag (show gs + 1 ≠ gs by omega); have D7 := ((D6.out.trans D4).ext EN).fresh hgrow' (fun b hb => (ho.lt b hb).1); have H7 := ((h8.ext hE9).ext EN).beside hgrow' (fun j e => by have := (ho.lt j e).1; omega); obtain ⟨z0, z1, k0, k1⟩ := blk2 GX7)
            refine hK.out _ _ trivial (fun hHz2q23 => ?_)
            clear hK K9
            try simp only [Act.put, List.setIfInBounds_toArray, List.set_cons_zero, List.set_cons_succ]
            refine wpAnyH_takeDw (some 64) (i := 8) (v := ?vz2q24) rfl (by kernel_rfl) (by kernel_rfl) (by kernel_rfl) (by kernel_rfl) (fun _ _ _ h => h) (Or.inl ⟨by rfl, ?hyz2q24⟩) (by assumption) ?rz2q24
            case hyz2q24 => intro w hSw; (try dsimp only at hSw); go_simp; first | done | with_reducible rfl
            case' rz2q24 => try simp only [Act.put, List.setIfInBounds_toArray, List.set_cons_zero, List.set_cons_succ]
            refine wpAnyH_ready (rs := [9]) (by kernel_rfl) (by simp) ?_
            refine AllReadyH.cons rfl (fun K9 hK => ?_) AllReadyH.nil
            go_simp
            refine hK.out _ _ trivial (fun hHz2q25 => ?_)
            clear hK K9
            try simp only [Act.put, List.setIfInBounds_toArray, List.set_cons_zero, List.set_cons_succ]
            refine wpAnyH_done (by kernel_rfl) ?_ _
            have G8 := Lib.hid (blk2_set0' (c := .slice (some ⟨gn, 0, none⟩) 2 cn) GX7)
            have R8 := Lib.hid (blk_off (o' := 0) (g' := gs + 1 + 1) RES7 (by omega) (.slice (some ⟨gn, 0, none⟩) 2 cn))
            have M8 := Lib.hid (AffsOwn.tag hres (grown_set w7 (gs + 1 + 1) 0 (.slice (some ⟨gn, 0, none⟩) 2 cn)) (Tag.blk GX7) (by decide) (by decide)); have O8 := Lib.hid (AffsOwn.tag hoth (grown_set w7 (gs + 1 + 1) 0 (.slice (some ⟨gn, 0, none⟩) 2 cn)) (Tag.blk GX7) (by decide) (by decide))
            have H8 := Lib.hid (H7.set (b := gs + 1 + 1) (o := 0) (by omega) (.slice (some ⟨gn, 0, none⟩) 2 cn)); have D8 := Lib.hid (D7.set (j := gs + 1 + 1) (o := 0) (by omega) (.slice (some ⟨gn, 0, none⟩) 2 cn))
            clear GX7 RES7 hres hoth H7 D7 z0 z1 k0 k1
            obtain ⟨x0f, x1f, -, -⟩ := blk2 G8.out
            obtain ⟨r0f, r1f, f0f, f1f⟩ := blk2 R8.out
            go_wp2
            refine bodyPost_ret (v := .agg #[.slice (some ⟨gn, 0, none⟩) 2 cn, .slice (some ⟨gs + 1, 0, none⟩) 1 1]) (by simp [results, Try.results77, go_sem, r0f, r1f]) rfl ⟨⟨_, _, ([([0, 0, 0, 0], x1)] ++ [([0, 0, 0, 0], y)], [([0, 0, 0, 0], x2)]), rfl, ⟨AffsOwn.res M8.out R8.out, AffsOwn.res O8.out R8.out⟩, FourA.mono (FourA.push (FourA.one XL.out) rfl) (by omega), FourA.mono (FourA.one YL.out) (by omega)⟩, ?_, ?_⟩
            · exact ((H8.out.set (by omega) _).set (by omega) _).mono (by omega)
            · exact (D8.out.set (Nat.le_refl _) _).set (Nat.le_refl _) _
          · skip
            (go_simp; refine (l1Const_any y _).mono ?_; rintro e v4 ⟨pN, cN, rfl, hvN, hE9⟩; have D4 : Dr w6 g v4 := D3.ext hE9; have GX4 := hE9.blk GX3; have RES4 := hE9.blk RES3; obtain ⟨x0'', x1'', -, -⟩ := blk2 GX4; have hl4 := lt_of_block GX4; have hs9 := D4.size; have hs39 := D3.size)
            refine hK.out _ _ trivial (fun hHz2q26 => ?_)
            clear hK K9
            try simp only [Act.put, List.setIfInBounds_toArray, List.set_cons_zero, List.set_cons_succ]
            refine wpAnyH_ready (rs := [1, 6]) (by kernel_rfl) (by simp) ?_
            refine AllReadyH.cons rfl (fun K9 hK => ?_) (AllReadyH.cons rfl (fun K9 hK => ?_) AllReadyH.nil)
            · skip
              go_simp
              refine hK.out _ _ trivial (fun hHz2q27 => ?_)
              clear hK K9
              try simp only [Act.put, List.setIfInBounds_toArray, List.set_cons_zero, List.set_cons_succ]
              refine wpAnyH_ready (rs := [6]) (by kernel_rfl) (by simp) ?_
              refine AllReadyH.cons rfl (fun K9 hK => ?_) AllReadyH.nil
              go_simp
              refine hK.out _ _ trivial (fun hHz2q28 => ?_)
              clear hK K9
              try simp only [Act.put, List.setIfInBounds_toArray, List.set_cons_zero, List.set_cons_succ]
              refine wpAnyH_ready (rs := [7]) (by kernel_rfl) (by simp) ?_
              refine AllReadyH.cons rfl (fun K9 hK => ?_) AllReadyH.nil
              (have EN : Ext v4 (v4.alloc (.cells #[.slice pN 4 cN, .int .i64 y] 36)) := (Ext.refl v4).alloc _; obtain ⟨vs, ho, he⟩ := AffsOwn.ext (AffsOwn.dr SA6.out D4 hlg) EN; have hvl := ho.1; refine step_append_lies _ rfl (.tmp 57) (.tmp 62) 49 rfl w.heap.size 36 i1 (.agg #[.slice none 0 0, .int .i64 0]) 2 32 underSliceAff ha hy0 hy1 hy2 rfl (by decide) (.slice (some ⟨gs, 0, none⟩) 1 1) 1 vs rfl ho ⟨v4.heap.size, 0, none⟩ 1 1 [.slice pN 4 cN, .int .i64 y] rfl rfl (pair_cells rfl) (by intro u hu; simp at hu; rcases hu with rfl | rfl <;> rfl) (by omega) (by unfold maxLen; omega) (by omega) (by simp <;> omega) _ rfl ?_; intro gn cn w7 hown' hgrow' hgeq' hltg; have htag := own_tag ho; have GX7 := blk_tag (EN.blk GX4) hgrow' htag (by decide); have RES7 := blk_tag (EN.blk RES4) hgrow' htag (by decide); have hres : AffsOwn w.heap.size w7 (.slice (some ⟨gn, 0, none⟩) 2 cn) ([([0, 0, 0, 0], x1)] ++ [([0, 0, 0, 0], y)]) := PairsOwn.push (R := AffO) (fun h a b => AffO.grow h a b) rfl he hvl hown' hgrow' htag ⟨(hvN.weak (by omega)).ext EN, rfl⟩; have hoth := AffsOwn.off (a := gs + 1) (b := gs) (AffsOwn.ext (AffsOwn.dr SB6.out D4 hlg) EN) hgrow' htag (show gs + 1 ≠ gs by omega); have D7 := ((D6.out.trans D4).ext EN).fresh hgrow' (fun b hb => (ho.lt b hb).1); have H7 := ((h8.ext hE9).ext EN).beside hgrow' (fun j e => by have := (ho.lt j e).1; omega); obtain ⟨z0, z1, k0, k1⟩ := blk2 GX7)
              refine hK.out _ _ trivial (fun hHz2q29 => ?_)
              clear hK K9
              try simp only [Act.put, List.setIfInBounds_toArray, List.set_cons_zero, List.set_cons_succ]
              refine wpAnyH_takeDw (some 64) (i := 8) (v := ?vz2q30) rfl (by kernel_rfl) (by kernel_rfl) (by kernel_rfl) (by kernel_rfl) (fun _ _ _ h => h) (Or.inl ⟨by rfl, ?hyz2q30⟩) (by assumption) ?rz2q30
              case hyz2q30 => intro w hSw; (try dsimp only at hSw); go_simp; first | done | with_reducible rfl
              case' rz2q30 => try simp only [Act.put, List.setIfInBounds_toArray, List.set_cons_zero, List.set_cons_succ]
              refine wpAnyH_ready (rs := [9]) (by kernel_rfl) (by simp) ?_
              refine AllReadyH.cons rfl (fun K9 hK => ?_) AllReadyH.nil
              go_simp
              refine hK.out _ _ trivial (fun hHz2q31 => ?_)
              clear hK K9
              try simp only [Act.put, List.setIfInBounds_toArray, List.set_cons_zero, List.set_cons_succ]
              refine wpAnyH_done (by kernel_rfl) ?_ _
              have G8 := Lib.hid (blk2_set0' (c := .slice (some ⟨gn, 0, none⟩) 2 cn) GX7)
              have R8 := Lib.hid (blk_off (o' := 0) (g' := gs + 1 + 1) RES7 (by omega) (.slice (some ⟨gn, 0, none⟩) 2 cn))
              have M8 := Lib.hid (AffsOwn.tag hres (grown_set w7 (gs + 1 + 1) 0 (.slice (some ⟨gn, 0, none⟩) 2 cn)) (Tag.blk GX7) (by decide) (by decide)); have O8 := Lib.hid (AffsOwn.tag hoth (grown_set w7 (gs + 1 + 1) 0 (.slice (some ⟨gn, 0, none⟩) 2 cn)) (Tag.blk GX7) (by decide) (by decide))
              have H8 := Lib.hid (H7.set (b := gs + 1 + 1) (o := 0) (by omega) (.slice (some ⟨gn, 0, none⟩) 2 cn)); have D8 := Lib.hid (D7.set (j := gs + 1 + 1) (o := 0) (by omega) (.slice (some ⟨gn, 0, none⟩) 2 cn))
              clear GX7 RES7 hres hoth H7 D7 z0 z1 k0 k1
              obtain ⟨x0f, x1f, -, -⟩ := blk2 G8.out
              obtain ⟨r0f, r1f, f0f, f1f⟩ := blk2 R8.out
              go_wp2
              refine bodyPost_ret (v := .agg #[.slice (some ⟨gn, 0, none⟩) 2 cn, .slice (some ⟨gs + 1, 0, none⟩) 1 1]) (by simp [results, Try.results77, go_sem, r0f, r1f]) rfl ⟨⟨_, _, ([([0, 0, 0, 0], x1)] ++ [([0, 0, 0, 0], y)], [([0, 0, 0, 0], x2)]), rfl, ⟨AffsOwn.res M8.out R8.out, AffsOwn.res O8.out R8.out⟩, FourA.mono (FourA.push (FourA.one XL.out) rfl) (by omega), FourA.mono (FourA.one YL.out) (by omega)⟩, ?_, ?_⟩
              · exact ((H8.out.set (by omega) _).set (by omega) _).mono (by omega)
              · exact (D8.out.set (Nat.le_refl _) _).set (Nat.le_refl _) _
            · skip
              go_simp
              refine hK.out _ _ trivial (fun hHz2q32 => ?_)
              clear hK K9
              try simp only [Act.put, List.setIfInBounds_toArray, List.set_cons_zero, List.set_cons_succ]
              refine wpAnyH_ready (rs := [1]) (by kernel_rfl) (by simp) ?_
              refine AllReadyH.cons rfl (fun K9 hK => ?_) AllReadyH.nil
              go_simp
              refine hK.out _ _ trivial (fun hHz2q33 => ?_)
              clear hK K9
              try simp only [Act.put, List.setIfInBounds_toArray, List.set_cons_zero, List.set_cons_succ]
              refine wpAnyH_ready (rs := [7]) (by kernel_rfl) (by simp) ?_
              refine AllReadyH.cons rfl (fun K9 hK => ?_) AllReadyH.nil
              (have EN : Ext v4 (v4.alloc (.cells #[.slice pN 4 cN, .int .i64 y] 36)) := (Ext.refl v4).alloc _; obtain ⟨vs, ho, he⟩ := AffsOwn.ext (AffsOwn.dr SA6.out D4 hlg) EN; have hvl := ho.1; refine step_append_lies _ rfl (.tmp 57) (.tmp 62) 49 rfl w.heap.size 36 i1 (.agg #[.slice none 0 0, .int .i64 0]) 2 32 underSliceAff ha hy0 hy1 hy2 rfl (by decide) (.slice (some ⟨gs, 0, none⟩) 1 1) 1 vs rfl ho ⟨v4.heap.size, 0, none⟩ 1 1 [.slice pN 4 cN, .int .i64 y] rfl rfl (pair_cells rfl) (by intro u hu; simp at hu; rcases hu with rfl | rfl <;> rfl) (by omega) (by unfold maxLen; omega) (by omega) (by simp <;> omega) _ rfl ?_; intro gn cn w7 hown' hgrow' hgeq' hltg; have htag := own_tag ho; have GX7 := blk_tag (EN.blk GX4) hgrow' htag (by decide); have RES7 := blk_tag (EN.blk RES4) hgrow' htag (by decide); have hres : AffsOwn w.heap.size w7 (.slice (some ⟨gn, 0, none⟩) 2 cn) ([([0, 0, 0, 0], x1)] ++ [([0, 0, 0, 0], y)]) := PairsOwn.push (R := AffO) (fun h a b => AffO.grow h a b) rfl he hvl hown' hgrow' htag ⟨(hvN.weak (by omega)).ext EN, rfl⟩; have hoth := AffsOwn.off (a := gs + 1) (b := gs) (AffsOwn.ext (AffsOwn.dr SB6.out D4 hlg) EN) hgrow' htag (show gs + 1 ≠ gs by omega); have D7 := ((D6.out.trans D4).ext EN).fresh hgrow' (fun b hb => (ho.lt b hb).1); have H7 := ((h8.ext hE9).ext EN).beside hgrow' (fun j e => by have := (ho.lt j e).1; omega); obtain ⟨z0, z1, k0, k1⟩ := blk2 GX7)
              refine hK.out _ _ trivial (fun hHz2q34 => ?_)
              clear hK K9
              try simp only [Act.put, List.setIfInBounds_toArray, List.set_cons_zero, List.set_cons_succ]
              refine wpAnyH_takeDw (some 64) (i := 8) (v := ?vz2q35) rfl (by kernel_rfl) (by kernel_rfl) (by kernel_rfl) (by kernel_rfl) (fun _ _ _ h => h) (Or.inl ⟨by rfl, ?hyz2q35⟩) (by assumption) ?rz2q35
              case hyz2q35 => intro w hSw; (try dsimp only at hSw); go_simp; first | done | with_reducible rfl
              case' rz2q35 => try simp only [Act.put, List.setIfInBounds_toArray, List.set_cons_zero, List.set_cons_succ]
              refine wpAnyH_ready (rs := [9]) (by kernel_rfl) (by simp) ?_
              refine AllReadyH.cons rfl (fun K9 hK => ?_) AllReadyH.nil
              go_simp
              refine hK.out _ _ trivial (fun hHz2q36 => ?_)
              clear hK K9
              try simp only [Act.put, List.setIfInBounds_toArray, List.set_cons_zero, List.set_cons_succ]
              refine wpAnyH_done (by kernel_rfl) ?_ _
              have G8 := Lib.hid (blk2_set0' (c := .slice (some ⟨gn, 0, none⟩) 2 cn) GX7)
              have R8 := Lib.hid (blk_off (o' := 0) (g' := gs + 1 + 1) RES7 (by omega) (.slice (some ⟨gn, 0, none⟩) 2 cn))
              have M8 := Lib.hid (AffsOwn.tag hres (grown_set w7 (gs + 1 + 1) 0 (.slice (some ⟨gn, 0, none⟩) 2 cn)) (Tag.blk GX7) (by decide) (by decide)); have O8 := Lib.hid (AffsOwn.tag hoth (grown_set w7 (gs + 1 + 1) 0 (.slice (some ⟨gn, 0, none⟩) 2 cn)) (Tag.blk GX7) (by decide) (by decide))
              have H8 := Lib.hid (H7.set (b := gs + 1 + 1) (o := 0) (by omega) (.slice (some ⟨gn, 0, none⟩) 2 cn)); have D8 := Lib.hid (D7.set (j := gs + 1 + 1) (o := 0) (by omega) (.slice (some ⟨gn, 0, none⟩) 2 cn))
              clear GX7 RES7 hres hoth H7 D7 z0 z1 k0 k1
              obtain ⟨x0f, x1f, -, -⟩ := blk2 G8.out
              obtain ⟨r0f, r1f, f0f, f1f⟩ := blk2 R8.out
              go_wp2
              refine bodyPost_ret (v := .agg #[.slice (some ⟨gn, 0, none⟩) 2 cn, .slice (some ⟨gs + 1, 0, none⟩) 1 1]) (by simp [results, Try.results77, go_sem, r0f, r1f]) rfl ⟨⟨_, _, ([([0, 0, 0, 0], x1)] ++ [([0, 0, 0, 0], y)], [([0, 0, 0, 0], x2)]), rfl, ⟨AffsOwn.res M8.out R8.out, AffsOwn.res O8.out R8.out⟩, FourA.mono (FourA.push (FourA.one XL.out) rfl) (by omega), FourA.mono (FourA.one YL.out) (by omega)⟩, ?_, ?_⟩
              · exact ((H8.out.set (by omega) _).set (by omega) _).mono (by omega)
              · exact (D8.out.set (Nat.le_refl _) _).set (Nat.le_refl _) _
    have hb61 : ((r6 : Int) == 1) = false := by simp; omega
    clear h61
    obtain ⟨x0f, x1f, -, -⟩ := blk2 GX.out
    obtain ⟨r0f, r1f, f0f, f1f⟩ := blk2 RES.out
    go_wp2
    refine bodyPost_ret (v := .agg #[.slice (some ⟨gs, 0, none⟩) 1 1, .slice (some ⟨gs + 1, 0, none⟩) 1 1]) (by simp [results, Try.results77, go_sem, r0f, r1f]) rfl ⟨⟨_, _, ([([0, 0, 0, 0], x1)], [([0, 0, 0, 0], x2)]), rfl, ⟨AffsOwn.res SA6.out RES.out, AffsOwn.res SB6.out RES.out⟩, FourA.mono (FourA.one XL.out) (by omega), FourA.mono (FourA.one YL.out) (by omega)⟩, ?_, ?_⟩
    · exact ((H6.out.set (by omega) _).set (by omega) _).mono (by omega)
    · exact (D6.out.set (Nat.le_refl _) _).set (Nat.le_refl _) _
  · have hdp : decide ((0 : Int) < (d : Int)) = true := by simp; omega
    go_wp2_with (fail)
    generalize w4.alloc (.cells #[.slice pB 4 cB, .int .i64 x2] 36) = wv at *
    generalize w4.heap.size = gB at *
    refine (pick_any W g (K + 2) 4 wv ST.out.rd (by omega) (by omega)).mono ?_
    rintro e w5 ⟨⟨r, rfl, -⟩, h4, h5⟩
    have ST5 := Lib.hid (LpSt.call ST.out h4 h5 hlg hgA hgB)
    clear h4 h5 ST
    go_upto_if 23 with fail
    go_cut [7] (fun s7 wc => ∃ (pa pb : Option Addr) (ca cb : Nat) (ka kb : Int) (xs ys : List Int), LpSt W w g (K + 5) gA gB wc pa pb ca cb ka kb xs ys)
    case first =>
      by_cases hr0 : r = 0
      · subst hr0
        go_wp2_with (fail)
        refine (pick_any W g (K + 3) d w5 ST5.out.rd (by omega) (by omega)).mono ?_
        rintro e w6 ⟨⟨v, rfl, hv⟩, h4, h5⟩
        have hvd : (v : Int) < d := hv (by omega)
        have ST6 := Lib.hid (LpSt.call ST5.out h4 h5 hlg hgA hgB)
        clear h4 h5 ST5 hv
        go_wp2_with (fail)
        refine (pick_any W g (K + 3 + 1) 2 w6 ST6.out.rd (by omega) (by omega)).mono ?_
        rintro e w7 ⟨⟨r2, rfl, -⟩, h4, h5⟩
        have ST7 := Lib.hid (LpSt.mono (K' := K + 5) (LpSt.call ST6.out h4 h5 hlg hgA hgB) (by omega))
        have hs7 := ST7.out.dr.size
        clear h4 h5 ST6
        have hv0 : (0 : Int) ≤ (v : Int) := by omega
        have hv4 : (v : Int) < 4 := by omega
        by_cases hr2 : r2 = 0
        · subst hr2
          go_wp2_with (fail)
          refine (l1Var_any v w7 hv0 hv4).mono ?_
          rintro e w8 ⟨pV, cV, rfl, hv8, hE8⟩
          have ST8 := Lib.hid (ST7.out.ext hE8)
          obtain ⟨q0, q1, e0, e1⟩ := blk2 ST8.out.A
          have STA := Lib.hid (LpSt.setA (k := 0) ST8.out (unitL_len v) (hv8.rowOf (unitL_len v) hs7) hlg hgA hgAB)
          clear hv8 hE8 ST7 ST8
          go_wp2_with (fail)
          go_meet
          exact ⟨_, _, _, _, _, _, _, _, STA.out⟩
        · have hb2 : ((r2 : Int) == 0) = false := by simp [hr2]
          clear hr2
          go_wp2_with (fail)
          refine (l1Var_any v w7 hv0 hv4).mono ?_
          rintro e w8 ⟨pV, cV, rfl, hv8, hE8⟩
          have ST8 := Lib.hid (ST7.out.ext hE8); have HV8 := Lib.hid hv8.at; have hs8 := hE8.size_le
          clear hv8 hE8 ST7
          go_wp2_with (fail)
          refine (l1Const_any 1 w8).mono ?_
          rintro e w9 ⟨pO, cO, rfl, hv9, hE9⟩
          have ST9 := Lib.hid (ST8.out.ext hE9); have HV9 := Lib.hid (HV8.out.ext hE9); have HO9 := Lib.hid hv9.at; have hs9 := hE9.size_le
          clear hv9 hE9 ST8 HV8
          go_wp2_with (fail)
          refine (l1Combine_any (.slice pV 4 cV) (.slice pO 4 cO) (unitL v) [0, 0, 0, 0] 0 1 1 1 w9 HV9.out HO9.out (unitL_len v) rfl (by omega) (fun i a b h1 h2 => by have := unit_bd h1; have := zero_bd h2; omega)).mono ?_
          rintro e w10 ⟨pC, cC, rfl, hvC, hEC⟩
          have ST10 := Lib.hid (ST9.out.ext hEC)
          obtain ⟨q0, q1, e0, e1⟩ := blk2 ST10.out.B
          have STA := Lib.hid (LpSt.setB (k := 1) ST10.out (comb_len4 (x := 1) (y := 1) (unitL_len v) (show ([0, 0, 0, 0] : List Int).length = 4 from rfl)) (hvC.rowOf (comb_len4 (unitL_len v) rfl) (by omega)) hlg hgB hgAB)
          clear hvC hEC ST9 ST10 HV9 HO9
          go_wp2_with (fail)
          go_meet
          exact ⟨_, _, _, _, _, _, _, _, STA.out⟩
      · have hb0 : ((r : Int) == 0) = false := by simp [hr0]
        clear hr0
        go_wp2_with (fail)
        go_meet
        exact ⟨_, _, _, _, _, _, _, _, LpSt.mono ST5.out (by omega)⟩
    case rest =>
      obtain ⟨pa, pb, ca, cb, ka, kb, xs, ys, hst⟩ := hcut
      have ST := Lib.hid hst; clear hst
      clear hdp
      have hlA9 := lt_of_block ST.out.A; have hlB9 := lt_of_block ST.out.B
      obtain ⟨a0, a1, -, -⟩ := blk2 ST.out.A
      obtain ⟨b0, b1, -, -⟩ := blk2 ST.out.B
      go_wp2_with (fail)
      have hwc := ST.out.dr.size
      have EV : Ext wc (((wc.alloc (.cells #[.slice pa 4 ca, .int .i64 ka] 36)).alloc (.cells #[.slice pb 4 cb, .int .i64 kb] 36)).alloc (.cells #[.slice (some ⟨wc.heap.size, 0, none⟩) 1 1, .slice (some ⟨wc.heap.size + 1, 0, none⟩) 1 1] 75)) := (((Ext.refl wc).alloc _).alloc _).alloc _
      have GAb := Lib.hid (show (((wc.alloc (.cells #[.slice pa 4 ca, .int .i64 ka] 36)).alloc (.cells #[.slice pb 4 cb, .int .i64 kb] 36)).alloc (.cells #[.slice (some ⟨wc.heap.size, 0, none⟩) 1 1, .slice (some ⟨wc.heap.size + 1, 0, none⟩) 1 1] 75)).heap[wc.heap.size]? = some (.cells #[.slice pa 4 ca, .int .i64 ka] 36 (0, 0)) from blk_old (blk_old (blk_at rfl)))
      have GBb := Lib.hid (show (((wc.alloc (.cells #[.slice pa 4 ca, .int .i64 ka] 36)).alloc (.cells #[.slice pb 4 cb, .int .i64 kb] 36)).alloc (.cells #[.slice (some ⟨wc.heap.size, 0, none⟩) 1 1, .slice (some ⟨wc.heap.size + 1, 0, none⟩) 1 1] 75)).heap[wc.heap.size + 1]? = some (.cells #[.slice pb 4 cb, .int .i64 kb] 36 (0, 0)) from blk_old (blk_at (by simp)))
      have GXb := Lib.hid (show (((wc.alloc (.cells #[.slice pa 4 ca, .int .i64 ka] 36)).alloc (.cells #[.slice pb 4 cb, .int .i64 kb] 36)).alloc (.cells #[.slice (some ⟨wc.heap.size, 0, none⟩) 1 1, .slice (some ⟨wc.heap.size + 1, 0, none⟩) 1 1] 75)).heap[wc.heap.size + 1 + 1]? = some (.cells #[.slice (some ⟨wc.heap.size, 0, none⟩) 1 1, .slice (some ⟨wc.heap.size + 1, 0, none⟩) 1 1] 75 (0, 0)) from blk_at (by simp))
      have STV := Lib.hid (ST.out.ext EV)
      clear a0 a1 b0 b1 EV ST
      generalize ((wc.alloc (.cells #[.slice pa 4 ca, .int .i64 ka] 36)).alloc (.cells #[.slice pb 4 cb, .int .i64 kb] 36)).alloc (.cells #[.slice (some ⟨wc.heap.size, 0, none⟩) 1 1, .slice (some ⟨wc.heap.size + 1, 0, none⟩) 1 1] 75) = V at *
      have SA := Lib.hid (one_side GAb.out hwc (IntsOwn.mk STV.out.xo STV.out.xl)); have SB := Lib.hid (one_side GBb.out (show w.heap.size ≤ wc.heap.size + 1 by omega) (IntsOwn.mk STV.out.yo STV.out.yl))
      refine (pick_any W g (K + 5) 12 V STV.out.rd (by omega) (by omega)).mono ?_
      rintro e w6 ⟨⟨r6, rfl, -⟩, h4, h5⟩
      have GX := Lib.hid (blk_dr GXb.out h5 (by omega)); have RES := Lib.hid (blk_dr STV.out.res h5 (by omega)); have SA6 := Lib.hid (AffsOwn.dr SA.out h5 hlg); have SB6 := Lib.hid (AffsOwn.dr SB.out h5 hlg); have H6 := Lib.hid h4; have D6 := Lib.hid (STV.out.dr.trans h5); have XL := Lib.hid STV.out.xl; have YL := Lib.hid STV.out.yl
      clear h4 h5 GAb GBb GXb STV SA SB
      have hlx := lt_of_block GX.out
      by_cases h60 : r6 = 0
      · subst h60
        obtain ⟨xc0, xc1, -, -⟩ := blk2 GX.out
        have HLit := Lib.hid (show ((w6.alloc (.cells #[.int .i64 3, .int .i64 2, .int .i64 4] 3)).drew).heap[w6.heap.size]? = some (.cells (([3, 2, 4] : List Int).map (Value.int .i64)).toArray 3 (0, 0)) from blk_at rfl)
        go_wp2_with (fail)
        refine wp_region_held_drew (S := (fun _ => True)) (by kernel_rfl) trivial (fun hHeld => ?_)
        refine wpAnyH_takeDw (some 45) (i := 0) (v := ?vz3q1) rfl (by kernel_rfl) (by kernel_rfl) (by kernel_rfl) (by kernel_rfl) (fun _ _ _ h => h) (Or.inl ⟨by rfl, ?hyz3q1⟩) (by assumption) ?rz3q1
        case hyz3q1 => intro w hSw; (try dsimp only at hSw); go_simp; first | done | with_reducible rfl
        case' rz3q1 => try simp only [Act.put, List.setIfInBounds_toArray, List.set_cons_zero, List.set_cons_succ]
        refine wpAnyH_takeDw (some 47) (i := 2) (v := ?vz3q2) rfl (by kernel_rfl) (by kernel_rfl) (by kernel_rfl) (by kernel_rfl) (fun _ _ _ h => h) (Or.inl ⟨by rfl, ?hyz3q2⟩) (by assumption) ?rz3q2
        case hyz3q2 => intro w hSw; (try dsimp only at hSw); go_simp; first | done | with_reducible rfl
        case' rz3q2 => try simp only [Act.put, List.setIfInBounds_toArray, List.set_cons_zero, List.set_cons_succ]
        refine wpAnyH_ready (rs := [1, 3]) (by kernel_rfl) (by simp) ?_
        refine AllReadyH.cons rfl (fun K9 hK => ?_) (AllReadyH.cons rfl (fun K9 hK => ?_) AllReadyH.nil)
        · skip
          go_simp
          refine hK.out _ _ trivial (fun hHz3q3 => ?_)
          clear hK K9
          try simp only [Act.put, List.setIfInBounds_toArray, List.set_cons_zero, List.set_cons_succ]
          refine wpAnyH_ready (rs := [3]) (by kernel_rfl) (by simp) ?_
          refine AllReadyH.cons rfl (fun K9 hK => ?_) AllReadyH.nil
          go_simp
          refine hK.out _ _ trivial (fun hHz3q4 => ?_)
          clear hK K9
          try simp only [Act.put, List.setIfInBounds_toArray, List.set_cons_zero, List.set_cons_succ]
          refine wpAnyH_ready (rs := [4]) (by kernel_rfl) (by simp) ?_
          refine AllReadyH.cons rfl (fun K9 hK => ?_) AllReadyH.nil
          (go_simp; refine (num_any W g (K + 5 + 1) w6.heap.size 3 [3, 2, 4] _ (H6.out.ext (((Ext.refl w6).alloc _).drew)) (by omega) rfl (by omega) (by omega) HLit.out (by omega)).mono ?_; rintro e v3 ⟨⟨y, rfl, -⟩, h8, h9⟩; have D3 : Dr w6 g v3 := (((Dr.refl w6 g).alloc _).drew).trans h9; have GX3 := blk_dr GX.out D3 (by omega); have RES3 := blk_dr RES.out D3 (by omega); obtain ⟨x0', x1', -, -⟩ := blk2 GX3; have hl3 := lt_of_block GX3)
          refine hK.out _ _ trivial (fun hHz3q5 => ?_)
          clear hK K9
          try simp only [Act.put, List.setIfInBounds_toArray, List.set_cons_zero, List.set_cons_succ]
          refine wpAnyH_ready (rs := [5]) (by kernel_rfl) (by simp) ?_
          refine AllReadyH.cons rfl (fun K9 hK => ?_) AllReadyH.nil
          (go_simp; refine (l1Const_any y _).mono ?_; rintro e v4 ⟨pN, cN, rfl, hvN, hE9⟩; have D4 : Dr w6 g v4 := D3.ext hE9; have GX4 := hE9.blk GX3; have RES4 := hE9.blk RES3; obtain ⟨x0'', x1'', -, -⟩ := blk2 GX4; have hl4 := lt_of_block GX4; have hs9 := D4.size; have hs39 := D3.size)
          refine hK.out _ _ trivial (fun hHz3q6 => ?_)
          clear hK K9
          try simp only [Act.put, List.setIfInBounds_toArray, List.set_cons_zero, List.set_cons_succ]
          refine wpAnyH_ready (rs := [6]) (by kernel_rfl) (by simp) ?_
          refine AllReadyH.cons rfl (fun K9 hK => ?_) AllReadyH.nil
          go_simp
          refine hK.out _ _ trivial (fun hHz3q7 => ?_)
          clear hK K9
          try simp only [Act.put, List.setIfInBounds_toArray, List.set_cons_zero, List.set_cons_succ]
          refine wpAnyH_ready (rs := [7]) (by kernel_rfl) (by simp) ?_
          refine AllReadyH.cons rfl (fun K9 hK => ?_) AllReadyH.nil
          (have EN : Ext v4 (v4.alloc (.cells #[.slice pN 4 cN, .int .i64 y] 36)) := (Ext.refl v4).alloc _; obtain ⟨vs, ho, he⟩ := AffsOwn.ext (AffsOwn.dr SB6.out D4 hlg) EN; have hvl := ho.1; refine step_append_lies _ rfl (.tmp 46) (.tmp 51) 49 rfl w.heap.size 36 i1 (.agg #[.slice none 0 0, .int .i64 0]) 2 32 underSliceAff ha hy0 hy1 hy2 rfl (by decide) (.slice (some ⟨wc.heap.size + 1, 0, none⟩) 1 1) 1 vs rfl ho ⟨v4.heap.size, 0, none⟩ 1 1 [.slice pN 4 cN, .int .i64 y] rfl rfl (pair_cells rfl) (by intro u hu; simp at hu; rcases hu with rfl | rfl <;> rfl) (by omega) (by unfold maxLen; omega) (by omega) (by simp <;> omega) _ rfl ?_; intro gn cn w7 hown' hgrow' hgeq' hltg; have htag := own_tag ho; have GX7 := blk_tag (EN.blk GX4) hgrow' htag (by decide); have RES7 := blk_tag (EN.blk RES4) hgrow' htag (by decide); have hres : AffsOwn w.heap.size w7 (.slice (some ⟨gn, 0, none⟩) 2 cn) ([(ys, kb)] ++ [([0, 0, 0, 0], y)]) := PairsOwn.push (R := AffO) (fun h a b => AffO.grow h a b) rfl he hvl hown' hgrow' htag ⟨(hvN.weak (by omega)).ext EN, rfl⟩; have hoth := AffsOwn.off (a := wc.heap.size) (b := wc.heap.size + 1) (AffsOwn.ext (AffsOwn.dr SA6.out D4 hlg) EN) hgrow' htag (show wc.heap.size ≠ wc.heap.size + 1 by omega); have D7 := ((D6.out.trans D4).ext EN).fresh hgrow' (fun b hb => (ho.lt b hb).1); have H7 := ((h8.ext hE9).ext EN).beside hgrow' (fun j e => by have := (ho.lt j e).1; omega); obtain ⟨z0, z1, k0, k1⟩ := blk2 GX7)
          refine hK.out _ _ trivial (fun hHz3q8 => ?_)
          clear hK K9
          try simp only [Act.put, List.setIfInBounds_toArray, List.set_cons_zero, List.set_cons_succ]
          refine wpAnyH_takeDw (some 53) (i := 8) (v := ?vz3q9) rfl (by kernel_rfl) (by kernel_rfl) (by kernel_rfl) (by kernel_rfl) (fun _ _ _ h => h) (Or.inl ⟨by rfl, ?hyz3q9⟩) (by assumption) ?rz3q9
          case hyz3q9 => intro w hSw; (try dsimp only at hSw); go_simp; first | done | with_reducible rfl
          case' rz3q9 => try simp only [Act.put, List.setIfInBounds_toArray, List.set_cons_zero, List.set_cons_succ]
          refine wpAnyH_ready (rs := [9]) (by kernel_rfl) (by simp) ?_
          refine AllReadyH.cons rfl (fun K9 hK => ?_) AllReadyH.nil
          go_simp
          refine hK.out _ _ trivial (fun hHz3q10 => ?_)
          clear hK K9
          try simp only [Act.put, List.setIfInBounds_toArray, List.set_cons_zero, List.set_cons_succ]
          refine wpAnyH_done (by kernel_rfl) ?_ _
          have G8 := Lib.hid (blk2_set1' (c := .slice (some ⟨gn, 0, none⟩) 2 cn) GX7)
          have R8 := Lib.hid (blk_off (o' := 1) (g' := wc.heap.size + 1 + 1) RES7 (by omega) (.slice (some ⟨gn, 0, none⟩) 2 cn))
          have M8 := Lib.hid (AffsOwn.tag hres (grown_set w7 (wc.heap.size + 1 + 1) 1 (.slice (some ⟨gn, 0, none⟩) 2 cn)) (Tag.blk GX7) (by decide) (by decide)); have O8 := Lib.hid (AffsOwn.tag hoth (grown_set w7 (wc.heap.size + 1 + 1) 1 (.slice (some ⟨gn, 0, none⟩) 2 cn)) (Tag.blk GX7) (by decide) (by decide))
          have H8 := Lib.hid (H7.set (b := wc.heap.size + 1 + 1) (o := 1) (by omega) (.slice (some ⟨gn, 0, none⟩) 2 cn)); have D8 := Lib.hid (D7.set (j := wc.heap.size + 1 + 1) (o := 1) (by omega) (.slice (some ⟨gn, 0, none⟩) 2 cn))
          clear GX7 RES7 hres hoth H7 D7 z0 z1 k0 k1
          obtain ⟨x0f, x1f, -, -⟩ := blk2 G8.out
          obtain ⟨r0f, r1f, f0f, f1f⟩ := blk2 R8.out
          go_wp2
          refine bodyPost_ret (v := .agg #[.slice (some ⟨wc.heap.size, 0, none⟩) 1 1, .slice (some ⟨gn, 0, none⟩) 2 cn]) (by simp [results, Try.results77, go_sem, r0f, r1f]) rfl ⟨⟨_, _, ([(xs, ka)], [(ys, kb)] ++ [([0, 0, 0, 0], y)]), rfl, ⟨AffsOwn.res O8.out R8.out, AffsOwn.res M8.out R8.out⟩, FourA.mono (FourA.one XL.out) (by omega), FourA.mono (FourA.push (FourA.one YL.out) rfl) (by omega)⟩, ?_, ?_⟩
          · exact ((H8.out.set (by omega) _).set (by omega) _).mono (by omega)
          · exact (D8.out.set (Nat.le_refl _) _).set (Nat.le_refl _) _
        · skip
          go_simp
          refine hK.out _ _ trivial (fun hHz3q11 => ?_)
          clear hK K9
          try simp only [Act.put, List.setIfInBounds_toArray, List.set_cons_zero, List.set_cons_succ]
          refine wpAnyH_ready (rs := [1, 4]) (by kernel_rfl) (by simp) ?_
          refine AllReadyH.cons rfl (fun K9 hK => ?_) (AllReadyH.cons rfl (fun K9 hK => ?_) AllReadyH.nil)
          · skip
            go_simp
            refine hK.out _ _ trivial (fun hHz3q12 => ?_)
            clear hK K9
            try simp only [Act.put, List.setIfInBounds_toArray, List.set_cons_zero, List.set_cons_succ]
            refine wpAnyH_ready (rs := [4]) (by kernel_rfl) (by simp) ?_
            refine AllReadyH.cons rfl (fun K9 hK => ?_) AllReadyH.nil
            (go_simp; refine (num_any W g (K + 5 + 1) w6.heap.size 3 [3, 2, 4] _ (H6.out.ext (((Ext.refl w6).alloc _).drew)) (by omega) rfl (by omega) (by omega) HLit.out (by omega)).mono ?_; rintro e v3 ⟨⟨y, rfl, -⟩, h8, h9⟩; have D3 : Dr w6 g v3 := (((Dr.refl w6 g).alloc _).drew).trans h9; have GX3 := blk_dr GX.out D3 (by omega); have RES3 := blk_dr RES.out D3 (by omega); obtain ⟨x0', x1', -, -⟩ := blk2 GX3; have hl3 := lt_of_block GX3)
            refine hK.out _ _ trivial (fun hHz3q13 => ?_)
            clear hK K9
            try simp only [Act.put, List.setIfInBounds_toArray, List.set_cons_zero, List.set_cons_succ]
            refine wpAnyH_ready (rs := [5]) (by kernel_rfl) (by simp) ?_
            refine AllReadyH.cons rfl (fun K9 hK => ?_) AllReadyH.nil
            (go_simp; refine (l1Const_any y _).mono ?_; rintro e v4 ⟨pN, cN, rfl, hvN, hE9⟩; have D4 : Dr w6 g v4 := D3.ext hE9; have GX4 := hE9.blk GX3; have RES4 := hE9.blk RES3; obtain ⟨x0'', x1'', -, -⟩ := blk2 GX4; have hl4 := lt_of_block GX4; have hs9 := D4.size; have hs39 := D3.size)
            refine hK.out _ _ trivial (fun hHz3q14 => ?_)
            clear hK K9
            try simp only [Act.put, List.setIfInBounds_toArray, List.set_cons_zero, List.set_cons_succ]
            refine wpAnyH_ready (rs := [6]) (by kernel_rfl) (by simp) ?_
            refine AllReadyH.cons rfl (fun K9 hK => ?_) AllReadyH.nil
            go_simp
            refine hK.out _ _ trivial (fun hHz3q15 => ?_)
            clear hK K9
            try simp only [Act.put, List.setIfInBounds_toArray, List.set_cons_zero, List.set_cons_succ]
            refine wpAnyH_ready (rs := [7]) (by kernel_rfl) (by simp) ?_
            refine AllReadyH.cons rfl (fun K9 hK => ?_) AllReadyH.nil
            (have EN : Ext v4 (v4.alloc (.cells #[.slice pN 4 cN, .int .i64 y] 36)) := (Ext.refl v4).alloc _; obtain ⟨vs, ho, he⟩ := AffsOwn.ext (AffsOwn.dr SB6.out D4 hlg) EN; have hvl := ho.1; refine step_append_lies _ rfl (.tmp 46) (.tmp 51) 49 rfl w.heap.size 36 i1 (.agg #[.slice none 0 0, .int .i64 0]) 2 32 underSliceAff ha hy0 hy1 hy2 rfl (by decide) (.slice (some ⟨wc.heap.size + 1, 0, none⟩) 1 1) 1 vs rfl ho ⟨v4.heap.size, 0, none⟩ 1 1 [.slice pN 4 cN, .int .i64 y] rfl rfl (pair_cells rfl) (by intro u hu; simp at hu; rcases hu with rfl | rfl <;> rfl) (by omega) (by unfold maxLen; omega) (by omega) (by simp <;> omega) _ rfl ?_; intro gn cn w7 hown' hgrow' hgeq' hltg; have htag := own_tag ho; have GX7 := blk_tag (EN.blk GX4) hgrow' htag (by decide); have RES7 := blk_tag (EN.blk RES4) hgrow' htag (by decide); have hres : AffsOwn w.heap.size w7 (.slice (some ⟨gn, 0, none⟩) 2 cn) ([(ys, kb)] ++ [([0, 0, 0, 0], y)]) := PairsOwn.push (R := AffO) (fun h a b => AffO.grow h a b) rfl he hvl hown' hgrow' htag ⟨(hvN.weak (by omega)).ext EN, rfl⟩; have hoth := AffsOwn.off (a := wc.heap.size) (b := wc.heap.size + 1) (AffsOwn.ext (AffsOwn.dr SA6.out D4 hlg) EN) hgrow' htag (show wc.heap.size ≠ wc.heap.size + 1 by omega); have D7 := ((D6.out.trans D4).ext EN).fresh hgrow' (fun b hb => (ho.lt b hb).1); have H7 := ((h8.ext hE9).ext EN).beside hgrow' (fun j e => by have := (ho.lt j e).1; omega); obtain ⟨z0, z1, k0, k1⟩ := blk2 GX7)
            refine hK.out _ _ trivial (fun hHz3q16 => ?_)
            clear hK K9
            try simp only [Act.put, List.setIfInBounds_toArray, List.set_cons_zero, List.set_cons_succ]
            refine wpAnyH_takeDw (some 53) (i := 8) (v := ?vz3q17) rfl (by kernel_rfl) (by kernel_rfl) (by kernel_rfl) (by kernel_rfl) (fun _ _ _ h => h) (Or.inl ⟨by rfl, ?hyz3q17⟩) (by assumption) ?rz3q17
            case hyz3q17 => intro w hSw; (try dsimp only at hSw); go_simp; first | done | with_reducible rfl
            case' rz3q17 => try simp only [Act.put, List.setIfInBounds_toArray, List.set_cons_zero, List.set_cons_succ]
            refine wpAnyH_ready (rs := [9]) (by kernel_rfl) (by simp) ?_
            refine AllReadyH.cons rfl (fun K9 hK => ?_) AllReadyH.nil
            go_simp
            refine hK.out _ _ trivial (fun hHz3q18 => ?_)
            clear hK K9
            try simp only [Act.put, List.setIfInBounds_toArray, List.set_cons_zero, List.set_cons_succ]
            refine wpAnyH_done (by kernel_rfl) ?_ _
            have G8 := Lib.hid (blk2_set1' (c := .slice (some ⟨gn, 0, none⟩) 2 cn) GX7)
            have R8 := Lib.hid (blk_off (o' := 1) (g' := wc.heap.size + 1 + 1) RES7 (by omega) (.slice (some ⟨gn, 0, none⟩) 2 cn))
            have M8 := Lib.hid (AffsOwn.tag hres (grown_set w7 (wc.heap.size + 1 + 1) 1 (.slice (some ⟨gn, 0, none⟩) 2 cn)) (Tag.blk GX7) (by decide) (by decide)); have O8 := Lib.hid (AffsOwn.tag hoth (grown_set w7 (wc.heap.size + 1 + 1) 1 (.slice (some ⟨gn, 0, none⟩) 2 cn)) (Tag.blk GX7) (by decide) (by decide))
            have H8 := Lib.hid (H7.set (b := wc.heap.size + 1 + 1) (o := 1) (by omega) (.slice (some ⟨gn, 0, none⟩) 2 cn)); have D8 := Lib.hid (D7.set (j := wc.heap.size + 1 + 1) (o := 1) (by omega) (.slice (some ⟨gn, 0, none⟩) 2 cn))
            clear GX7 RES7 hres hoth H7 D7 z0 z1 k0 k1
            obtain ⟨x0f, x1f, -, -⟩ := blk2 G8.out
            obtain ⟨r0f, r1f, f0f, f1f⟩ := blk2 R8.out
            go_wp2
            refine bodyPost_ret (v := .agg #[.slice (some ⟨wc.heap.size, 0, none⟩) 1 1, .slice (some ⟨gn, 0, none⟩) 2 cn]) (by simp [results, Try.results77, go_sem, r0f, r1f]) rfl ⟨⟨_, _, ([(xs, ka)], [(ys, kb)] ++ [([0, 0, 0, 0], y)]), rfl, ⟨AffsOwn.res O8.out R8.out, AffsOwn.res M8.out R8.out⟩, FourA.mono (FourA.one XL.out) (by omega), FourA.mono (FourA.push (FourA.one YL.out) rfl) (by omega)⟩, ?_, ?_⟩
            · exact ((H8.out.set (by omega) _).set (by omega) _).mono (by omega)
            · exact (D8.out.set (Nat.le_refl _) _).set (Nat.le_refl _) _
          · skip
            (go_simp; refine (num_any W g (K + 5 + 1) w6.heap.size 3 [3, 2, 4] _ (H6.out.ext (((Ext.refl w6).alloc _).drew)) (by omega) rfl (by omega) (by omega) HLit.out (by omega)).mono ?_; rintro e v3 ⟨⟨y, rfl, -⟩, h8, h9⟩; have D3 : Dr w6 g v3 := (((Dr.refl w6 g).alloc _).drew).trans h9; have GX3 := blk_dr GX.out D3 (by omega); have RES3 := blk_dr RES.out D3 (by omega); obtain ⟨x0', x1', -, -⟩ := blk2 GX3; have hl3 := lt_of_block GX3)
            refine hK.out _ _ trivial (fun hHz3q19 => ?_)
            clear hK K9
            try simp only [Act.put, List.setIfInBounds_toArray, List.set_cons_zero, List.set_cons_succ]
            refine wpAnyH_ready (rs := [1, 5]) (by kernel_rfl) (by simp) ?_
            refine AllReadyH.cons rfl (fun K9 hK => ?_) (AllReadyH.cons rfl (fun K9 hK => ?_) AllReadyH.nil)
            · skip
              go_simp
              refine hK.out _ _ trivial (fun hHz3q20 => ?_)
              clear hK K9
              try simp only [Act.put, List.setIfInBounds_toArray, List.set_cons_zero, List.set_cons_succ]
              refine wpAnyH_ready (rs := [5]) (by kernel_rfl) (by simp) ?_
              refine AllReadyH.cons rfl (fun K9 hK => ?_) AllReadyH.nil
              (go_simp; refine (l1Const_any y _).mono ?_; rintro e v4 ⟨pN, cN, rfl, hvN, hE9⟩; have D4 : Dr w6 g v4 := D3.ext hE9; have GX4 := hE9.blk GX3; have RES4 := hE9.blk RES3; obtain ⟨x0'', x1'', -, -⟩ := blk2 GX4; have hl4 := lt_of_block GX4; have hs9 := D4.size; have hs39 := D3.size)
              refine hK.out _ _ trivial (fun hHz3q21 => ?_)
              clear hK K9
              try simp only [Act.put, List.setIfInBounds_toArray, List.set_cons_zero, List.set_cons_succ]
              refine wpAnyH_ready (rs := [6]) (by kernel_rfl) (by simp) ?_
              refine AllReadyH.cons rfl (fun K9 hK => ?_) AllReadyH.nil
              go_simp
              refine hK.out _ _ trivial (fun hHz3q22 => ?_)
              clear hK K9
              try simp only [Act.put, List.setIfInBounds_toArray, List.set_cons_zero, List.set_cons_succ]
              refine wpAnyH_ready (rs := [7]) (by kernel_rfl) (by simp) ?_
              refine AllReadyH.cons rfl (fun K9 hK => ?_) AllReadyH.nil
              (have EN : Ext v4 (v4.alloc (.cells #[.slice pN 4 cN, .int .i64 y] 36)) := (Ext.refl v4).alloc _; obtain ⟨vs, ho, he⟩ := AffsOwn.ext (AffsOwn.dr SB6.out D4 hlg) EN; have hvl := ho.1; refine step_append_lies _ rfl (.tmp 46) (.tmp 51) 49 rfl w.heap.size 36 i1 (.agg #[.slice none 0 0, .int .i64 0]) 2 32 underSliceAff ha hy0 hy1 hy2 rfl (by decide) (.slice (some ⟨wc.heap.size + 1, 0, none⟩) 1 1) 1 vs rfl ho ⟨v4.heap.size, 0, none⟩ 1 1 [.slice pN 4 cN, .int .i64 y] rfl rfl (pair_cells rfl) (by intro u hu; simp at hu; rcases hu with rfl | rfl <;> rfl) (by omega) (by unfold maxLen; omega) (by omega) (by simp <;> omega) _ rfl ?_; intro gn cn w7 hown' hgrow' hgeq' hltg; have htag := own_tag ho; have GX7 := blk_tag (EN.blk GX4) hgrow' htag (by decide); have RES7 := blk_tag (EN.blk RES4) hgrow' htag (by decide); have hres : AffsOwn w.heap.size w7 (.slice (some ⟨gn, 0, none⟩) 2 cn) ([(ys, kb)] ++ [([0, 0, 0, 0], y)]) := PairsOwn.push (R := AffO) (fun h a b => AffO.grow h a b) rfl he hvl hown' hgrow' htag ⟨(hvN.weak (by omega)).ext EN, rfl⟩; have hoth := AffsOwn.off (a := wc.heap.size) (b := wc.heap.size + 1) (AffsOwn.ext (AffsOwn.dr SA6.out D4 hlg) EN) hgrow' htag (show wc.heap.size ≠ wc.heap.size + 1 by omega); have D7 := ((D6.out.trans D4).ext EN).fresh hgrow' (fun b hb => (ho.lt b hb).1); have H7 := ((h8.ext hE9).ext EN).beside hgrow' (fun j e => by have := (ho.lt j e).1; omega); obtain ⟨z0, z1, k0, k1⟩ := blk2 GX7)
              refine hK.out _ _ trivial (fun hHz3q23 => ?_)
              clear hK K9
              try simp only [Act.put, List.setIfInBounds_toArray, List.set_cons_zero, List.set_cons_succ]
              refine wpAnyH_takeDw (some 53) (i := 8) (v := ?vz3q24) rfl (by kernel_rfl) (by kernel_rfl) (by kernel_rfl) (by kernel_rfl) (fun _ _ _ h => h) (Or.inl ⟨by rfl, ?hyz3q24⟩) (by assumption) ?rz3q24
              case hyz3q24 => intro w hSw; (try dsimp only at hSw); go_simp; first | done | with_reducible rfl
              case' rz3q24 => try simp only [Act.put, List.setIfInBounds_toArray, List.set_cons_zero, List.set_cons_succ]
              refine wpAnyH_ready (rs := [9]) (by kernel_rfl) (by simp) ?_
              refine AllReadyH.cons rfl (fun K9 hK => ?_) AllReadyH.nil
              go_simp
              refine hK.out _ _ trivial (fun hHz3q25 => ?_)
              clear hK K9
              try simp only [Act.put, List.setIfInBounds_toArray, List.set_cons_zero, List.set_cons_succ]
              refine wpAnyH_done (by kernel_rfl) ?_ _
              have G8 := Lib.hid (blk2_set1' (c := .slice (some ⟨gn, 0, none⟩) 2 cn) GX7)
              have R8 := Lib.hid (blk_off (o' := 1) (g' := wc.heap.size + 1 + 1) RES7 (by omega) (.slice (some ⟨gn, 0, none⟩) 2 cn))
              have M8 := Lib.hid (AffsOwn.tag hres (grown_set w7 (wc.heap.size + 1 + 1) 1 (.slice (some ⟨gn, 0, none⟩) 2 cn)) (Tag.blk GX7) (by decide) (by decide)); have O8 := Lib.hid (AffsOwn.tag hoth (grown_set w7 (wc.heap.size + 1 + 1) 1 (.slice (some ⟨gn, 0, none⟩) 2 cn)) (Tag.blk GX7) (by decide) (by decide))
              have H8 := Lib.hid (H7.set (b := wc.heap.size + 1 + 1) (o := 1) (by omega) (.slice (some ⟨gn, 0, none⟩) 2 cn)); have D8 := Lib.hid (D7.set (j := wc.heap.size + 1 + 1) (o := 1) (by omega) (.slice (some ⟨gn, 0, none⟩) 2 cn))
              clear GX7 RES7 hres hoth H7 D7 z0 z1 k0 k1
              obtain ⟨x0f, x1f, -, -⟩ := blk2 G8.out
              obtain ⟨r0f, r1f, f0f, f1f⟩ := blk2 R8.out
              go_wp2
              refine bodyPost_ret (v := .agg #[.slice (some ⟨wc.heap.size, 0, none⟩) 1 1, .slice (some ⟨gn, 0, none⟩) 2 cn]) (by simp [results, Try.results77, go_sem, r0f, r1f]) rfl ⟨⟨_, _, ([(xs, ka)], [(ys, kb)] ++ [([0, 0, 0, 0], y)]), rfl, ⟨AffsOwn.res O8.out R8.out, AffsOwn.res M8.out R8.out⟩, FourA.mono (FourA.one XL.out) (by omega), FourA.mono (FourA.push (FourA.one YL.out) rfl) (by omega)⟩, ?_, ?_⟩
              · exact ((H8.out.set (by omega) _).set (by omega) _).mono (by omega)
              · exact (D8.out.set (Nat.le_refl _) _).set (Nat.le_refl _) _
            · skip
              (go_simp; refine (l1Const_any y _).mono ?_; rintro e v4 ⟨pN, cN, rfl, hvN, hE9⟩; have D4 : Dr w6 g v4 := D3.ext hE9; have GX4 := hE9.blk GX3; have RES4 := hE9.blk RES3; obtain ⟨x0'', x1'', -, -⟩ := blk2 GX4; have hl4 := lt_of_block GX4; have hs9 := D4.size; have hs39 := D3.size)
              refine hK.out _ _ trivial (fun hHz3q26 => ?_)
              clear hK K9
              try simp only [Act.put, List.setIfInBounds_toArray, List.set_cons_zero, List.set_cons_succ]
              refine wpAnyH_ready (rs := [1, 6]) (by kernel_rfl) (by simp) ?_
              refine AllReadyH.cons rfl (fun K9 hK => ?_) (AllReadyH.cons rfl (fun K9 hK => ?_) AllReadyH.nil)
              · skip
                go_simp
                refine hK.out _ _ trivial (fun hHz3q27 => ?_)
                clear hK K9
                try simp only [Act.put, List.setIfInBounds_toArray, List.set_cons_zero, List.set_cons_succ]
                refine wpAnyH_ready (rs := [6]) (by kernel_rfl) (by simp) ?_
                refine AllReadyH.cons rfl (fun K9 hK => ?_) AllReadyH.nil
                go_simp
                refine hK.out _ _ trivial (fun hHz3q28 => ?_)
                clear hK K9
                try simp only [Act.put, List.setIfInBounds_toArray, List.set_cons_zero, List.set_cons_succ]
                refine wpAnyH_ready (rs := [7]) (by kernel_rfl) (by simp) ?_
                refine AllReadyH.cons rfl (fun K9 hK => ?_) AllReadyH.nil
                (have EN : Ext v4 (v4.alloc (.cells #[.slice pN 4 cN, .int .i64 y] 36)) := (Ext.refl v4).alloc _; obtain ⟨vs, ho, he⟩ := AffsOwn.ext (AffsOwn.dr SB6.out D4 hlg) EN; have hvl := ho.1; refine step_append_lies _ rfl (.tmp 46) (.tmp 51) 49 rfl w.heap.size 36 i1 (.agg #[.slice none 0 0, .int .i64 0]) 2 32 underSliceAff ha hy0 hy1 hy2 rfl (by decide) (.slice (some ⟨wc.heap.size + 1, 0, none⟩) 1 1) 1 vs rfl ho ⟨v4.heap.size, 0, none⟩ 1 1 [.slice pN 4 cN, .int .i64 y] rfl rfl (pair_cells rfl) (by intro u hu; simp at hu; rcases hu with rfl | rfl <;> rfl) (by omega) (by unfold maxLen; omega) (by omega) (by simp <;> omega) _ rfl ?_; intro gn cn w7 hown' hgrow' hgeq' hltg; have htag := own_tag ho; have GX7 := blk_tag (EN.blk GX4) hgrow' htag (by decide); have RES7 := blk_tag (EN.blk RES4) hgrow' htag (by decide); have hres : AffsOwn w.heap.size w7 (.slice (some ⟨gn, 0, none⟩) 2 cn) ([(ys, kb)] ++ [([0, 0, 0, 0], y)]) := PairsOwn.push (R := AffO) (fun h a b => AffO.grow h a b) rfl he hvl hown' hgrow' htag ⟨(hvN.weak (by omega)).ext EN, rfl⟩; have hoth := AffsOwn.off (a := wc.heap.size) (b := wc.heap.size + 1) (AffsOwn.ext (AffsOwn.dr SA6.out D4 hlg) EN) hgrow' htag (show wc.heap.size ≠ wc.heap.size + 1 by omega); have D7 := ((D6.out.trans D4).ext EN).fresh hgrow' (fun b hb => (ho.lt b hb).1); have H7 := ((h8.ext hE9).ext EN).beside hgrow' (fun j e => by have := (ho.lt j e).1; omega); obtain ⟨z0, z1, k0, k1⟩ := blk2 GX7)
                refine hK.out _ _ trivial (fun hHz3q29 => ?_)
                clear hK K9
                try simp only [Act.put, List.setIfInBounds_toArray, List.set_cons_zero, List.set_cons_succ]
                refine wpAnyH_takeDw (some 53) (i := 8) (v := ?vz3q30) rfl (by kernel_rfl) (by kernel_rfl) (by kernel_rfl) (by kernel_rfl) (fun _ _ _ h => h) (Or.inl ⟨by rfl, ?hyz3q30⟩) (by assumption) ?rz3q30
                case hyz3q30 => intro w hSw; (try dsimp only at hSw); go_simp; first | done | with_reducible rfl
                case' rz3q30 => try simp only [Act.put, List.setIfInBounds_toArray, List.set_cons_zero, List.set_cons_succ]
                refine wpAnyH_ready (rs := [9]) (by kernel_rfl) (by simp) ?_
                refine AllReadyH.cons rfl (fun K9 hK => ?_) AllReadyH.nil
                go_simp
                refine hK.out _ _ trivial (fun hHz3q31 => ?_)
                clear hK K9
                try simp only [Act.put, List.setIfInBounds_toArray, List.set_cons_zero, List.set_cons_succ]
                refine wpAnyH_done (by kernel_rfl) ?_ _
                have G8 := Lib.hid (blk2_set1' (c := .slice (some ⟨gn, 0, none⟩) 2 cn) GX7)
                have R8 := Lib.hid (blk_off (o' := 1) (g' := wc.heap.size + 1 + 1) RES7 (by omega) (.slice (some ⟨gn, 0, none⟩) 2 cn))
                have M8 := Lib.hid (AffsOwn.tag hres (grown_set w7 (wc.heap.size + 1 + 1) 1 (.slice (some ⟨gn, 0, none⟩) 2 cn)) (Tag.blk GX7) (by decide) (by decide)); have O8 := Lib.hid (AffsOwn.tag hoth (grown_set w7 (wc.heap.size + 1 + 1) 1 (.slice (some ⟨gn, 0, none⟩) 2 cn)) (Tag.blk GX7) (by decide) (by decide))
                have H8 := Lib.hid (H7.set (b := wc.heap.size + 1 + 1) (o := 1) (by omega) (.slice (some ⟨gn, 0, none⟩) 2 cn)); have D8 := Lib.hid (D7.set (j := wc.heap.size + 1 + 1) (o := 1) (by omega) (.slice (some ⟨gn, 0, none⟩) 2 cn))
                clear GX7 RES7 hres hoth H7 D7 z0 z1 k0 k1
                obtain ⟨x0f, x1f, -, -⟩ := blk2 G8.out
                obtain ⟨r0f, r1f, f0f, f1f⟩ := blk2 R8.out
                go_wp2
                refine bodyPost_ret (v := .agg #[.slice (some ⟨wc.heap.size, 0, none⟩) 1 1, .slice (some ⟨gn, 0, none⟩) 2 cn]) (by simp [results, Try.results77, go_sem, r0f, r1f]) rfl ⟨⟨_, _, ([(xs, ka)], [(ys, kb)] ++ [([0, 0, 0, 0], y)]), rfl, ⟨AffsOwn.res O8.out R8.out, AffsOwn.res M8.out R8.out⟩, FourA.mono (FourA.one XL.out) (by omega), FourA.mono (FourA.push (FourA.one YL.out) rfl) (by omega)⟩, ?_, ?_⟩
                · exact ((H8.out.set (by omega) _).set (by omega) _).mono (by omega)
                · exact (D8.out.set (Nat.le_refl _) _).set (Nat.le_refl _) _
              · skip
                go_simp
                refine hK.out _ _ trivial (fun hHz3q32 => ?_)
                clear hK K9
                try simp only [Act.put, List.setIfInBounds_toArray, List.set_cons_zero, List.set_cons_succ]
                refine wpAnyH_ready (rs := [1]) (by kernel_rfl) (by simp) ?_
                refine AllReadyH.cons rfl (fun K9 hK => ?_) AllReadyH.nil
                go_simp
                refine hK.out _ _ trivial (fun hHz3q33 => ?_)
                clear hK K9
                try simp only [Act.put, List.setIfInBounds_toArray, List.set_cons_zero, List.set_cons_succ]
                refine wpAnyH_ready (rs := [7]) (by kernel_rfl) (by simp) ?_
                refine AllReadyH.cons rfl (fun K9 hK => ?_) AllReadyH.nil
                (have EN : Ext v4 (v4.alloc (.cells #[.slice pN 4 cN, .int .i64 y] 36)) := (Ext.refl v4).alloc _; obtain ⟨vs, ho, he⟩ := AffsOwn.ext (AffsOwn.dr SB6.out D4 hlg) EN; have hvl := ho.1; refine step_append_lies _ rfl (.tmp 46) (.tmp 51) 49 rfl w.heap.size 36 i1 (.agg #[.slice none 0 0, .int .i64 0]) 2 32 underSliceAff ha hy0 hy1 hy2 rfl (by decide) (.slice (some ⟨wc.heap.size + 1, 0, none⟩) 1 1) 1 vs rfl ho ⟨v4.heap.size, 0, none⟩ 1 1 [.slice pN 4 cN, .int .i64 y] rfl rfl (pair_cells rfl) (by intro u hu; simp at hu; rcases hu with rfl | rfl <;> rfl) (by omega) (by unfold maxLen; omega) (by omega) (by simp <;> omega) _ rfl ?_; intro gn cn w7 hown' hgrow' hgeq' hltg; have htag := own_tag ho; have GX7 := blk_tag (EN.blk GX4) hgrow' htag (by decide); have RES7 := blk_tag (EN.blk RES4) hgrow' htag (by decide); have hres : AffsOwn w.heap.size w7 (.slice (some ⟨gn, 0, none⟩) 2 cn) ([(ys, kb)] ++ [([0, 0, 0, 0], y)]) := PairsOwn.push (R := AffO) (fun h a b => AffO.grow h a b) rfl he hvl hown' hgrow' htag ⟨(hvN.weak (by omega)).ext EN, rfl⟩; have hoth := AffsOwn.off (a := wc.heap.size) (b := wc.heap.size + 1) (AffsOwn.ext (AffsOwn.dr SA6.out D4 hlg) EN) hgrow' htag (show wc.heap.size ≠ wc.heap.size + 1 by omega); have D7 := ((D6.out.trans D4).ext EN).fresh hgrow' (fun b hb => (ho.lt b hb).1); have H7 := ((h8.ext hE9).ext EN).beside hgrow' (fun j e => by have := (ho.lt j e).1; omega); obtain ⟨z0, z1, k0, k1⟩ := blk2 GX7)
                refine hK.out _ _ trivial (fun hHz3q34 => ?_)
                clear hK K9
                try simp only [Act.put, List.setIfInBounds_toArray, List.set_cons_zero, List.set_cons_succ]
                refine wpAnyH_takeDw (some 53) (i := 8) (v := ?vz3q35) rfl (by kernel_rfl) (by kernel_rfl) (by kernel_rfl) (by kernel_rfl) (fun _ _ _ h => h) (Or.inl ⟨by rfl, ?hyz3q35⟩) (by assumption) ?rz3q35
                case hyz3q35 => intro w hSw; (try dsimp only at hSw); go_simp; first | done | with_reducible rfl
                case' rz3q35 => try simp only [Act.put, List.setIfInBounds_toArray, List.set_cons_zero, List.set_cons_succ]
                refine wpAnyH_ready (rs := [9]) (by kernel_rfl) (by simp) ?_
                refine AllReadyH.cons rfl (fun K9 hK => ?_) AllReadyH.nil
                go_simp
                refine hK.out _ _ trivial (fun hHz3q36 => ?_)
                clear hK K9
                try simp only [Act.put, List.setIfInBounds_toArray, List.set_cons_zero, List.set_cons_succ]
                refine wpAnyH_done (by kernel_rfl) ?_ _
                have G8 := Lib.hid (blk2_set1' (c := .slice (some ⟨gn, 0, none⟩) 2 cn) GX7)
                have R8 := Lib.hid (blk_off (o' := 1) (g' := wc.heap.size + 1 + 1) RES7 (by omega) (.slice (some ⟨gn, 0, none⟩) 2 cn))
                have M8 := Lib.hid (AffsOwn.tag hres (grown_set w7 (wc.heap.size + 1 + 1) 1 (.slice (some ⟨gn, 0, none⟩) 2 cn)) (Tag.blk GX7) (by decide) (by decide)); have O8 := Lib.hid (AffsOwn.tag hoth (grown_set w7 (wc.heap.size + 1 + 1) 1 (.slice (some ⟨gn, 0, none⟩) 2 cn)) (Tag.blk GX7) (by decide) (by decide))
                have H8 := Lib.hid (H7.set (b := wc.heap.size + 1 + 1) (o := 1) (by omega) (.slice (some ⟨gn, 0, none⟩) 2 cn)); have D8 := Lib.hid (D7.set (j := wc.heap.size + 1 + 1) (o := 1) (by omega) (.slice (some ⟨gn, 0, none⟩) 2 cn))
                clear GX7 RES7 hres hoth H7 D7 z0 z1 k0 k1
                obtain ⟨x0f, x1f, -, -⟩ := blk2 G8.out
                obtain ⟨r0f, r1f, f0f, f1f⟩ := blk2 R8.out
                go_wp2
                refine bodyPost_ret (v := .agg #[.slice (some ⟨wc.heap.size, 0, none⟩) 1 1, .slice (some ⟨gn, 0, none⟩) 2 cn]) (by simp [results, Try.results77, go_sem, r0f, r1f]) rfl ⟨⟨_, _, ([(xs, ka)], [(ys, kb)] ++ [([0, 0, 0, 0], y)]), rfl, ⟨AffsOwn.res O8.out R8.out, AffsOwn.res M8.out R8.out⟩, FourA.mono (FourA.one XL.out) (by omega), FourA.mono (FourA.push (FourA.one YL.out) rfl) (by omega)⟩, ?_, ?_⟩
                · exact ((H8.out.set (by omega) _).set (by omega) _).mono (by omega)
                · exact (D8.out.set (Nat.le_refl _) _).set (Nat.le_refl _) _
      have hb60 : ((r6 : Int) == 0) = false := by simp [h60]
      clear h60
      by_cases h61 : r6 = 1
      · subst h61
        obtain ⟨xc0, xc1, -, -⟩ := blk2 GX.out
        have HLit := Lib.hid (show ((w6.alloc (.cells #[.int .i64 0, .int .i64 1] 3)).drew).heap[w6.heap.size]? = some (.cells (([0, 1] : List Int).map (Value.int .i64)).toArray 3 (0, 0)) from blk_at rfl)
        go_wp2_with (fail)
        refine wp_region_held_drew (S := (fun _ => True)) (by kernel_rfl) trivial (fun hHeld => ?_)
        refine wpAnyH_takeDw (some 56) (i := 0) (v := ?vz4q1) rfl (by kernel_rfl) (by kernel_rfl) (by kernel_rfl) (by kernel_rfl) (fun _ _ _ h => h) (Or.inl ⟨by rfl, ?hyz4q1⟩) (by assumption) ?rz4q1
        case hyz4q1 => intro w hSw; (try dsimp only at hSw); go_simp; first | done | with_reducible rfl
        case' rz4q1 => try simp only [Act.put, List.setIfInBounds_toArray, List.set_cons_zero, List.set_cons_succ]
        refine wpAnyH_takeDw (some 58) (i := 2) (v := ?vz4q2) rfl (by kernel_rfl) (by kernel_rfl) (by kernel_rfl) (by kernel_rfl) (fun _ _ _ h => h) (Or.inl ⟨by rfl, ?hyz4q2⟩) (by assumption) ?rz4q2
        case hyz4q2 => intro w hSw; (try dsimp only at hSw); go_simp; first | done | with_reducible rfl
        case' rz4q2 => try simp only [Act.put, List.setIfInBounds_toArray, List.set_cons_zero, List.set_cons_succ]
        refine wpAnyH_ready (rs := [1, 3]) (by kernel_rfl) (by simp) ?_
        refine AllReadyH.cons rfl (fun K9 hK => ?_) (AllReadyH.cons rfl (fun K9 hK => ?_) AllReadyH.nil)
        · skip
          go_simp
          refine hK.out _ _ trivial (fun hHz4q3 => ?_)
          clear hK K9
          try simp only [Act.put, List.setIfInBounds_toArray, List.set_cons_zero, List.set_cons_succ]
          refine wpAnyH_ready (rs := [3]) (by kernel_rfl) (by simp) ?_
          refine AllReadyH.cons rfl (fun K9 hK => ?_) AllReadyH.nil
          go_simp
          refine hK.out _ _ trivial (fun hHz4q4 => ?_)
          clear hK K9
          try simp only [Act.put, List.setIfInBounds_toArray, List.set_cons_zero, List.set_cons_succ]
          refine wpAnyH_ready (rs := [4]) (by kernel_rfl) (by simp) ?_
          refine AllReadyH.cons rfl (fun K9 hK => ?_) AllReadyH.nil
          (go_simp; refine (num_any W g (K + 5 + 1) w6.heap.size 2 [0, 1] _ (H6.out.ext (((Ext.refl w6).alloc _).drew)) (by omega) rfl (by omega) (by omega) HLit.out (by omega)).mono ?_; rintro e v3 ⟨⟨y, rfl, -⟩, h8, h9⟩; have D3 : Dr w6 g v3 := (((Dr.refl w6 g).alloc _).drew).trans h9; have GX3 := blk_dr GX.out D3 (by omega); have RES3 := blk_dr RES.out D3 (by omega); obtain ⟨x0', x1', -, -⟩ := blk2 GX3; have hl3 := lt_of_block GX3)
          refine hK.out _ _ trivial (fun hHz4q5 => ?_)
          clear hK K9
          try simp only [Act.put, List.setIfInBounds_toArray, List.set_cons_zero, List.set_cons_succ]
          refine wpAnyH_ready (rs := [5]) (by kernel_rfl) (by simp) ?_
          refine AllReadyH.cons rfl (fun K9 hK => ?_) AllReadyH.nil
          (go_simp; refine (l1Const_any y _).mono ?_; rintro e v4 ⟨pN, cN, rfl, hvN, hE9⟩; have D4 : Dr w6 g v4 := D3.ext hE9; have GX4 := hE9.blk GX3; have RES4 := hE9.blk RES3; obtain ⟨x0'', x1'', -, -⟩ := blk2 GX4; have hl4 := lt_of_block GX4; have hs9 := D4.size; have hs39 := D3.size)
          refine hK.out _ _ trivial (fun hHz4q6 => ?_)
          clear hK K9
          try simp only [Act.put, List.setIfInBounds_toArray, List.set_cons_zero, List.set_cons_succ]
          refine wpAnyH_ready (rs := [6]) (by kernel_rfl) (by simp) ?_
          refine AllReadyH.cons rfl (fun K9 hK => ?_) AllReadyH.nil
          go_simp
          refine hK.out _ _ trivial (fun hHz4q7 => ?_)
          clear hK K9
          try simp only [Act.put, List.setIfInBounds_toArray, List.set_cons_zero, List.set_cons_succ]
          refine wpAnyH_ready (rs := [7]) (by kernel_rfl) (by simp) ?_
          refine AllReadyH.cons rfl (fun K9 hK => ?_) AllReadyH.nil
          (have EN : Ext v4 (v4.alloc (.cells #[.slice pN 4 cN, .int .i64 y] 36)) := (Ext.refl v4).alloc _; obtain ⟨vs, ho, he⟩ := AffsOwn.ext (AffsOwn.dr SA6.out D4 hlg) EN; have hvl := ho.1; refine step_append_lies _ rfl (.tmp 57) (.tmp 62) 49 rfl w.heap.size 36 i1 (.agg #[.slice none 0 0, .int .i64 0]) 2 32 underSliceAff ha hy0 hy1 hy2 rfl (by decide) (.slice (some ⟨wc.heap.size, 0, none⟩) 1 1) 1 vs rfl ho ⟨v4.heap.size, 0, none⟩ 1 1 [.slice pN 4 cN, .int .i64 y] rfl rfl (pair_cells rfl) (by intro u hu; simp at hu; rcases hu with rfl | rfl <;> rfl) (by omega) (by unfold maxLen; omega) (by omega) (by simp <;> omega) _ rfl ?_; intro gn cn w7 hown' hgrow' hgeq' hltg; have htag := own_tag ho; have GX7 := blk_tag (EN.blk GX4) hgrow' htag (by decide); have RES7 := blk_tag (EN.blk RES4) hgrow' htag (by decide); have hres : AffsOwn w.heap.size w7 (.slice (some ⟨gn, 0, none⟩) 2 cn) ([(xs, ka)] ++ [([0, 0, 0, 0], y)]) := PairsOwn.push (R := AffO) (fun h a b => AffO.grow h a b) rfl he hvl hown' hgrow' htag ⟨(hvN.weak (by omega)).ext EN, rfl⟩; have hoth := AffsOwn.off (a := wc.heap.size + 1) (b := wc.heap.size) (AffsOwn.ext (AffsOwn.dr SB6.out D4 hlg) EN) hgrow' htag (show wc.heap.size + 1 ≠ wc.heap.size by omega); have D7 := ((D6.out.trans D4).ext EN).fresh hgrow' (fun b hb => (ho.lt b hb).1); have H7 := ((h8.ext hE9).ext EN).beside hgrow' (fun j e => by have := (ho.lt j e).1; omega); obtain ⟨z0, z1, k0, k1⟩ := blk2 GX7)
          refine hK.out _ _ trivial (fun hHz4q8 => ?_)
          clear hK K9
          try simp only [Act.put, List.setIfInBounds_toArray, List.set_cons_zero, List.set_cons_succ]
          refine wpAnyH_takeDw (some 64) (i := 8) (v := ?vz4q9) rfl (by kernel_rfl) (by kernel_rfl) (by kernel_rfl) (by kernel_rfl) (fun _ _ _ h => h) (Or.inl ⟨by rfl, ?hyz4q9⟩) (by assumption) ?rz4q9
          case hyz4q9 => intro w hSw; (try dsimp only at hSw); go_simp; first | done | with_reducible rfl
          case' rz4q9 => try simp only [Act.put, List.setIfInBounds_toArray, List.set_cons_zero, List.set_cons_succ]
          refine wpAnyH_ready (rs := [9]) (by kernel_rfl) (by simp) ?_
          refine AllReadyH.cons rfl (fun K9 hK => ?_) AllReadyH.nil
          go_simp
          refine hK.out _ _ trivial (fun hHz4q10 => ?_)
          clear hK K9
          try simp only [Act.put, List.setIfInBounds_toArray, List.set_cons_zero, List.set_cons_succ]
          refine wpAnyH_done (by kernel_rfl) ?_ _
          have G8 := Lib.hid (blk2_set0' (c := .slice (some ⟨gn, 0, none⟩) 2 cn) GX7)
          have R8 := Lib.hid (blk_off (o' := 0) (g' := wc.heap.size + 1 + 1) RES7 (by omega) (.slice (some ⟨gn, 0, none⟩) 2 cn))
          have M8 := Lib.hid (AffsOwn.tag hres (grown_set w7 (wc.heap.size + 1 + 1) 0 (.slice (some ⟨gn, 0, none⟩) 2 cn)) (Tag.blk GX7) (by decide) (by decide)); have O8 := Lib.hid (AffsOwn.tag hoth (grown_set w7 (wc.heap.size + 1 + 1) 0 (.slice (some ⟨gn, 0, none⟩) 2 cn)) (Tag.blk GX7) (by decide) (by decide))
          have H8 := Lib.hid (H7.set (b := wc.heap.size + 1 + 1) (o := 0) (by omega) (.slice (some ⟨gn, 0, none⟩) 2 cn)); have D8 := Lib.hid (D7.set (j := wc.heap.size + 1 + 1) (o := 0) (by omega) (.slice (some ⟨gn, 0, none⟩) 2 cn))
          clear GX7 RES7 hres hoth H7 D7 z0 z1 k0 k1
          obtain ⟨x0f, x1f, -, -⟩ := blk2 G8.out
          obtain ⟨r0f, r1f, f0f, f1f⟩ := blk2 R8.out
          go_wp2
          refine bodyPost_ret (v := .agg #[.slice (some ⟨gn, 0, none⟩) 2 cn, .slice (some ⟨wc.heap.size + 1, 0, none⟩) 1 1]) (by simp [results, Try.results77, go_sem, r0f, r1f]) rfl ⟨⟨_, _, ([(xs, ka)] ++ [([0, 0, 0, 0], y)], [(ys, kb)]), rfl, ⟨AffsOwn.res M8.out R8.out, AffsOwn.res O8.out R8.out⟩, FourA.mono (FourA.push (FourA.one XL.out) rfl) (by omega), FourA.mono (FourA.one YL.out) (by omega)⟩, ?_, ?_⟩
          · exact ((H8.out.set (by omega) _).set (by omega) _).mono (by omega)
          · exact (D8.out.set (Nat.le_refl _) _).set (Nat.le_refl _) _
        · skip
          go_simp
          refine hK.out _ _ trivial (fun hHz4q11 => ?_)
          clear hK K9
          try simp only [Act.put, List.setIfInBounds_toArray, List.set_cons_zero, List.set_cons_succ]
          refine wpAnyH_ready (rs := [1, 4]) (by kernel_rfl) (by simp) ?_
          refine AllReadyH.cons rfl (fun K9 hK => ?_) (AllReadyH.cons rfl (fun K9 hK => ?_) AllReadyH.nil)
          · skip
            go_simp
            refine hK.out _ _ trivial (fun hHz4q12 => ?_)
            clear hK K9
            try simp only [Act.put, List.setIfInBounds_toArray, List.set_cons_zero, List.set_cons_succ]
            refine wpAnyH_ready (rs := [4]) (by kernel_rfl) (by simp) ?_
            refine AllReadyH.cons rfl (fun K9 hK => ?_) AllReadyH.nil
            (go_simp; refine (num_any W g (K + 5 + 1) w6.heap.size 2 [0, 1] _ (H6.out.ext (((Ext.refl w6).alloc _).drew)) (by omega) rfl (by omega) (by omega) HLit.out (by omega)).mono ?_; rintro e v3 ⟨⟨y, rfl, -⟩, h8, h9⟩; have D3 : Dr w6 g v3 := (((Dr.refl w6 g).alloc _).drew).trans h9; have GX3 := blk_dr GX.out D3 (by omega); have RES3 := blk_dr RES.out D3 (by omega); obtain ⟨x0', x1', -, -⟩ := blk2 GX3; have hl3 := lt_of_block GX3)
            refine hK.out _ _ trivial (fun hHz4q13 => ?_)
            clear hK K9
            try simp only [Act.put, List.setIfInBounds_toArray, List.set_cons_zero, List.set_cons_succ]
            refine wpAnyH_ready (rs := [5]) (by kernel_rfl) (by simp) ?_
            refine AllReadyH.cons rfl (fun K9 hK => ?_) AllReadyH.nil
            (go_simp; refine (l1Const_any y _).mono ?_; rintro e v4 ⟨pN, cN, rfl, hvN, hE9⟩; have D4 : Dr w6 g v4 := D3.ext hE9; have GX4 := hE9.blk GX3; have RES4 := hE9.blk RES3; obtain ⟨x0'', x1'', -, -⟩ := blk2 GX4; have hl4 := lt_of_block GX4; have hs9 := D4.size; have hs39 := D3.size)
            refine hK.out _ _ trivial (fun hHz4q14 => ?_)
            clear hK K9
            try simp only [Act.put, List.setIfInBounds_toArray, List.set_cons_zero, List.set_cons_succ]
            refine wpAnyH_ready (rs := [6]) (by kernel_rfl) (by simp) ?_
            refine AllReadyH.cons rfl (fun K9 hK => ?_) AllReadyH.nil
            go_simp
            refine hK.out _ _ trivial (fun hHz4q15 => ?_)
            clear hK K9
            try simp only [Act.put, List.setIfInBounds_toArray, List.set_cons_zero, List.set_cons_succ]
            refine wpAnyH_ready (rs := [7]) (by kernel_rfl) (by simp) ?_
            refine AllReadyH.cons rfl (fun K9 hK => ?_) AllReadyH.nil
            (have EN : Ext v4 (v4.alloc (.cells #[.slice pN 4 cN, .int .i64 y] 36)) := (Ext.refl v4).alloc _; obtain ⟨vs, ho, he⟩ := AffsOwn.ext (AffsOwn.dr SA6.out D4 hlg) EN; have hvl := ho.1; refine step_append_lies _ rfl (.tmp 57) (.tmp 62) 49 rfl w.heap.size 36 i1 (.agg #[.slice none 0 0, .int .i64 0]) 2 32 underSliceAff ha hy0 hy1 hy2 rfl (by decide) (.slice (some ⟨wc.heap.size, 0, none⟩) 1 1) 1 vs rfl ho ⟨v4.heap.size, 0, none⟩ 1 1 [.slice pN 4 cN, .int .i64 y] rfl rfl (pair_cells rfl) (by intro u hu; simp at hu; rcases hu with rfl | rfl <;> rfl) (by omega) (by unfold maxLen; omega) (by omega) (by simp <;> omega) _ rfl ?_; intro gn cn w7 hown' hgrow' hgeq' hltg; have htag := own_tag ho; have GX7 := blk_tag (EN.blk GX4) hgrow' htag (by decide); have RES7 := blk_tag (EN.blk RES4) hgrow' htag (by decide); have hres : AffsOwn w.heap.size w7 (.slice (some ⟨gn, 0, none⟩) 2 cn) ([(xs, ka)] ++ [([0, 0, 0, 0], y)]) := PairsOwn.push (R := AffO) (fun h a b => AffO.grow h a b) rfl he hvl hown' hgrow' htag ⟨(hvN.weak (by omega)).ext EN, rfl⟩; have hoth := AffsOwn.off (a := wc.heap.size + 1) (b := wc.heap.size) (AffsOwn.ext (AffsOwn.dr SB6.out D4 hlg) EN) hgrow' htag (show wc.heap.size + 1 ≠ wc.heap.size by omega); have D7 := ((D6.out.trans D4).ext EN).fresh hgrow' (fun b hb => (ho.lt b hb).1); have H7 := ((h8.ext hE9).ext EN).beside hgrow' (fun j e => by have := (ho.lt j e).1; omega); obtain ⟨z0, z1, k0, k1⟩ := blk2 GX7)
            refine hK.out _ _ trivial (fun hHz4q16 => ?_)
            clear hK K9
            try simp only [Act.put, List.setIfInBounds_toArray, List.set_cons_zero, List.set_cons_succ]
            refine wpAnyH_takeDw (some 64) (i := 8) (v := ?vz4q17) rfl (by kernel_rfl) (by kernel_rfl) (by kernel_rfl) (by kernel_rfl) (fun _ _ _ h => h) (Or.inl ⟨by rfl, ?hyz4q17⟩) (by assumption) ?rz4q17
            case hyz4q17 => intro w hSw; (try dsimp only at hSw); go_simp; first | done | with_reducible rfl
            case' rz4q17 => try simp only [Act.put, List.setIfInBounds_toArray, List.set_cons_zero, List.set_cons_succ]
            refine wpAnyH_ready (rs := [9]) (by kernel_rfl) (by simp) ?_
            refine AllReadyH.cons rfl (fun K9 hK => ?_) AllReadyH.nil
            go_simp
            refine hK.out _ _ trivial (fun hHz4q18 => ?_)
            clear hK K9
            try simp only [Act.put, List.setIfInBounds_toArray, List.set_cons_zero, List.set_cons_succ]
            refine wpAnyH_done (by kernel_rfl) ?_ _
            have G8 := Lib.hid (blk2_set0' (c := .slice (some ⟨gn, 0, none⟩) 2 cn) GX7)
            have R8 := Lib.hid (blk_off (o' := 0) (g' := wc.heap.size + 1 + 1) RES7 (by omega) (.slice (some ⟨gn, 0, none⟩) 2 cn))
            have M8 := Lib.hid (AffsOwn.tag hres (grown_set w7 (wc.heap.size + 1 + 1) 0 (.slice (some ⟨gn, 0, none⟩) 2 cn)) (Tag.blk GX7) (by decide) (by decide)); have O8 := Lib.hid (AffsOwn.tag hoth (grown_set w7 (wc.heap.size + 1 + 1) 0 (.slice (some ⟨gn, 0, none⟩) 2 cn)) (Tag.blk GX7) (by decide) (by decide))
            have H8 := Lib.hid (H7.set (b := wc.heap.size + 1 + 1) (o := 0) (by omega) (.slice (some ⟨gn, 0, none⟩) 2 cn)); have D8 := Lib.hid (D7.set (j := wc.heap.size + 1 + 1) (o := 0) (by omega) (.slice (some ⟨gn, 0, none⟩) 2 cn))
            clear GX7 RES7 hres hoth H7 D7 z0 z1 k0 k1
            obtain ⟨x0f, x1f, -, -⟩ := blk2 G8.out
            obtain ⟨r0f, r1f, f0f, f1f⟩ := blk2 R8.out
            go_wp2
            refine bodyPost_ret (v := .agg #[.slice (some ⟨gn, 0, none⟩) 2 cn, .slice (some ⟨wc.heap.size + 1, 0, none⟩) 1 1]) (by simp [results, Try.results77, go_sem, r0f, r1f]) rfl ⟨⟨_, _, ([(xs, ka)] ++ [([0, 0, 0, 0], y)], [(ys, kb)]), rfl, ⟨AffsOwn.res M8.out R8.out, AffsOwn.res O8.out R8.out⟩, FourA.mono (FourA.push (FourA.one XL.out) rfl) (by omega), FourA.mono (FourA.one YL.out) (by omega)⟩, ?_, ?_⟩
            · exact ((H8.out.set (by omega) _).set (by omega) _).mono (by omega)
            · exact (D8.out.set (Nat.le_refl _) _).set (Nat.le_refl _) _
          · skip
            (go_simp; refine (num_any W g (K + 5 + 1) w6.heap.size 2 [0, 1] _ (H6.out.ext (((Ext.refl w6).alloc _).drew)) (by omega) rfl (by omega) (by omega) HLit.out (by omega)).mono ?_; rintro e v3 ⟨⟨y, rfl, -⟩, h8, h9⟩; have D3 : Dr w6 g v3 := (((Dr.refl w6 g).alloc _).drew).trans h9; have GX3 := blk_dr GX.out D3 (by omega); have RES3 := blk_dr RES.out D3 (by omega); obtain ⟨x0', x1', -, -⟩ := blk2 GX3; have hl3 := lt_of_block GX3)
            refine hK.out _ _ trivial (fun hHz4q19 => ?_)
            clear hK K9
            try simp only [Act.put, List.setIfInBounds_toArray, List.set_cons_zero, List.set_cons_succ]
            refine wpAnyH_ready (rs := [1, 5]) (by kernel_rfl) (by simp) ?_
            refine AllReadyH.cons rfl (fun K9 hK => ?_) (AllReadyH.cons rfl (fun K9 hK => ?_) AllReadyH.nil)
            · skip
              go_simp
              refine hK.out _ _ trivial (fun hHz4q20 => ?_)
              clear hK K9
              try simp only [Act.put, List.setIfInBounds_toArray, List.set_cons_zero, List.set_cons_succ]
              refine wpAnyH_ready (rs := [5]) (by kernel_rfl) (by simp) ?_
              refine AllReadyH.cons rfl (fun K9 hK => ?_) AllReadyH.nil
              (go_simp; refine (l1Const_any y _).mono ?_; rintro e v4 ⟨pN, cN, rfl, hvN, hE9⟩; have D4 : Dr w6 g v4 := D3.ext hE9; have GX4 := hE9.blk GX3; have RES4 := hE9.blk RES3; obtain ⟨x0'', x1'', -, -⟩ := blk2 GX4; have hl4 := lt_of_block GX4; have hs9 := D4.size; have hs39 := D3.size)
              refine hK.out _ _ trivial (fun hHz4q21 => ?_)
              clear hK K9
              try simp only [Act.put, List.setIfInBounds_toArray, List.set_cons_zero, List.set_cons_succ]
              refine wpAnyH_ready (rs := [6]) (by kernel_rfl) (by simp) ?_
              refine AllReadyH.cons rfl (fun K9 hK => ?_) AllReadyH.nil
              go_simp
              refine hK.out _ _ trivial (fun hHz4q22 => ?_)
              clear hK K9
              try simp only [Act.put, List.setIfInBounds_toArray, List.set_cons_zero, List.set_cons_succ]
              refine wpAnyH_ready (rs := [7]) (by kernel_rfl) (by simp) ?_
              refine AllReadyH.cons rfl (fun K9 hK => ?_) AllReadyH.nil
              (have EN : Ext v4 (v4.alloc (.cells #[.slice pN 4 cN, .int .i64 y] 36)) := (Ext.refl v4).alloc _; obtain ⟨vs, ho, he⟩ := AffsOwn.ext (AffsOwn.dr SA6.out D4 hlg) EN; have hvl := ho.1; refine step_append_lies _ rfl (.tmp 57) (.tmp 62) 49 rfl w.heap.size 36 i1 (.agg #[.slice none 0 0, .int .i64 0]) 2 32 underSliceAff ha hy0 hy1 hy2 rfl (by decide) (.slice (some ⟨wc.heap.size, 0, none⟩) 1 1) 1 vs rfl ho ⟨v4.heap.size, 0, none⟩ 1 1 [.slice pN 4 cN, .int .i64 y] rfl rfl (pair_cells rfl) (by intro u hu; simp at hu; rcases hu with rfl | rfl <;> rfl) (by omega) (by unfold maxLen; omega) (by omega) (by simp <;> omega) _ rfl ?_; intro gn cn w7 hown' hgrow' hgeq' hltg; have htag := own_tag ho; have GX7 := blk_tag (EN.blk GX4) hgrow' htag (by decide); have RES7 := blk_tag (EN.blk RES4) hgrow' htag (by decide); have hres : AffsOwn w.heap.size w7 (.slice (some ⟨gn, 0, none⟩) 2 cn) ([(xs, ka)] ++ [([0, 0, 0, 0], y)]) := PairsOwn.push (R := AffO) (fun h a b => AffO.grow h a b) rfl he hvl hown' hgrow' htag ⟨(hvN.weak (by omega)).ext EN, rfl⟩; have hoth := AffsOwn.off (a := wc.heap.size + 1) (b := wc.heap.size) (AffsOwn.ext (AffsOwn.dr SB6.out D4 hlg) EN) hgrow' htag (show wc.heap.size + 1 ≠ wc.heap.size by omega); have D7 := ((D6.out.trans D4).ext EN).fresh hgrow' (fun b hb => (ho.lt b hb).1); have H7 := ((h8.ext hE9).ext EN).beside hgrow' (fun j e => by have := (ho.lt j e).1; omega); obtain ⟨z0, z1, k0, k1⟩ := blk2 GX7)
              refine hK.out _ _ trivial (fun hHz4q23 => ?_)
              clear hK K9
              try simp only [Act.put, List.setIfInBounds_toArray, List.set_cons_zero, List.set_cons_succ]
              refine wpAnyH_takeDw (some 64) (i := 8) (v := ?vz4q24) rfl (by kernel_rfl) (by kernel_rfl) (by kernel_rfl) (by kernel_rfl) (fun _ _ _ h => h) (Or.inl ⟨by rfl, ?hyz4q24⟩) (by assumption) ?rz4q24
              case hyz4q24 => intro w hSw; (try dsimp only at hSw); go_simp; first | done | with_reducible rfl
              case' rz4q24 => try simp only [Act.put, List.setIfInBounds_toArray, List.set_cons_zero, List.set_cons_succ]
              refine wpAnyH_ready (rs := [9]) (by kernel_rfl) (by simp) ?_
              refine AllReadyH.cons rfl (fun K9 hK => ?_) AllReadyH.nil
              go_simp
              refine hK.out _ _ trivial (fun hHz4q25 => ?_)
              clear hK K9
              try simp only [Act.put, List.setIfInBounds_toArray, List.set_cons_zero, List.set_cons_succ]
              refine wpAnyH_done (by kernel_rfl) ?_ _
              have G8 := Lib.hid (blk2_set0' (c := .slice (some ⟨gn, 0, none⟩) 2 cn) GX7)
              have R8 := Lib.hid (blk_off (o' := 0) (g' := wc.heap.size + 1 + 1) RES7 (by omega) (.slice (some ⟨gn, 0, none⟩) 2 cn))
              have M8 := Lib.hid (AffsOwn.tag hres (grown_set w7 (wc.heap.size + 1 + 1) 0 (.slice (some ⟨gn, 0, none⟩) 2 cn)) (Tag.blk GX7) (by decide) (by decide)); have O8 := Lib.hid (AffsOwn.tag hoth (grown_set w7 (wc.heap.size + 1 + 1) 0 (.slice (some ⟨gn, 0, none⟩) 2 cn)) (Tag.blk GX7) (by decide) (by decide))
              have H8 := Lib.hid (H7.set (b := wc.heap.size + 1 + 1) (o := 0) (by omega) (.slice (some ⟨gn, 0, none⟩) 2 cn)); have D8 := Lib.hid (D7.set (j := wc.heap.size + 1 + 1) (o := 0) (by omega) (.slice (some ⟨gn, 0, none⟩) 2 cn))
              clear GX7 RES7 hres hoth H7 D7 z0 z1 k0 k1
              obtain ⟨x0f, x1f, -, -⟩ := blk2 G8.out
              obtain ⟨r0f, r1f, f0f, f1f⟩ := blk2 R8.out
              go_wp2
              refine bodyPost_ret (v := .agg #[.slice (some ⟨gn, 0, none⟩) 2 cn, .slice (some ⟨wc.heap.size + 1, 0, none⟩) 1 1]) (by simp [results, Try.results77, go_sem, r0f, r1f]) rfl ⟨⟨_, _, ([(xs, ka)] ++ [([0, 0, 0, 0], y)], [(ys, kb)]), rfl, ⟨AffsOwn.res M8.out R8.out, AffsOwn.res O8.out R8.out⟩, FourA.mono (FourA.push (FourA.one XL.out) rfl) (by omega), FourA.mono (FourA.one YL.out) (by omega)⟩, ?_, ?_⟩
              · exact ((H8.out.set (by omega) _).set (by omega) _).mono (by omega)
              · exact (D8.out.set (Nat.le_refl _) _).set (Nat.le_refl _) _
            · skip
              (go_simp; refine (l1Const_any y _).mono ?_; rintro e v4 ⟨pN, cN, rfl, hvN, hE9⟩; have D4 : Dr w6 g v4 := D3.ext hE9; have GX4 := hE9.blk GX3; have RES4 := hE9.blk RES3; obtain ⟨x0'', x1'', -, -⟩ := blk2 GX4; have hl4 := lt_of_block GX4; have hs9 := D4.size; have hs39 := D3.size)
              refine hK.out _ _ trivial (fun hHz4q26 => ?_)
              clear hK K9
              try simp only [Act.put, List.setIfInBounds_toArray, List.set_cons_zero, List.set_cons_succ]
              refine wpAnyH_ready (rs := [1, 6]) (by kernel_rfl) (by simp) ?_
              refine AllReadyH.cons rfl (fun K9 hK => ?_) (AllReadyH.cons rfl (fun K9 hK => ?_) AllReadyH.nil)
              · skip
                go_simp
                refine hK.out _ _ trivial (fun hHz4q27 => ?_)
                clear hK K9
                try simp only [Act.put, List.setIfInBounds_toArray, List.set_cons_zero, List.set_cons_succ]
                refine wpAnyH_ready (rs := [6]) (by kernel_rfl) (by simp) ?_
                refine AllReadyH.cons rfl (fun K9 hK => ?_) AllReadyH.nil
                go_simp
                refine hK.out _ _ trivial (fun hHz4q28 => ?_)
                clear hK K9
                try simp only [Act.put, List.setIfInBounds_toArray, List.set_cons_zero, List.set_cons_succ]
                refine wpAnyH_ready (rs := [7]) (by kernel_rfl) (by simp) ?_
                refine AllReadyH.cons rfl (fun K9 hK => ?_) AllReadyH.nil
                (have EN : Ext v4 (v4.alloc (.cells #[.slice pN 4 cN, .int .i64 y] 36)) := (Ext.refl v4).alloc _; obtain ⟨vs, ho, he⟩ := AffsOwn.ext (AffsOwn.dr SA6.out D4 hlg) EN; have hvl := ho.1; refine step_append_lies _ rfl (.tmp 57) (.tmp 62) 49 rfl w.heap.size 36 i1 (.agg #[.slice none 0 0, .int .i64 0]) 2 32 underSliceAff ha hy0 hy1 hy2 rfl (by decide) (.slice (some ⟨wc.heap.size, 0, none⟩) 1 1) 1 vs rfl ho ⟨v4.heap.size, 0, none⟩ 1 1 [.slice pN 4 cN, .int .i64 y] rfl rfl (pair_cells rfl) (by intro u hu; simp at hu; rcases hu with rfl | rfl <;> rfl) (by omega) (by unfold maxLen; omega) (by omega) (by simp <;> omega) _ rfl ?_; intro gn cn w7 hown' hgrow' hgeq' hltg; have htag := own_tag ho; have GX7 := blk_tag (EN.blk GX4) hgrow' htag (by decide); have RES7 := blk_tag (EN.blk RES4) hgrow' htag (by decide); have hres : AffsOwn w.heap.size w7 (.slice (some ⟨gn, 0, none⟩) 2 cn) ([(xs, ka)] ++ [([0, 0, 0, 0], y)]) := PairsOwn.push (R := AffO) (fun h a b => AffO.grow h a b) rfl he hvl hown' hgrow' htag ⟨(hvN.weak (by omega)).ext EN, rfl⟩; have hoth := AffsOwn.off (a := wc.heap.size + 1) (b := wc.heap.size) (AffsOwn.ext (AffsOwn.dr SB6.out D4 hlg) EN) hgrow' htag (show wc.heap.size + 1 ≠ wc.heap.size by omega); have D7 := ((D6.out.trans D4).ext EN).fresh hgrow' (fun b hb => (ho.lt b hb).1); have H7 := ((h8.ext hE9).ext EN).beside hgrow' (fun j e => by have := (ho.lt j e).1; omega); obtain ⟨z0, z1, k0, k1⟩ := blk2 GX7)
                refine hK.out _ _ trivial (fun hHz4q29 => ?_)
                clear hK K9
                try simp only [Act.put, List.setIfInBounds_toArray, List.set_cons_zero, List.set_cons_succ]
                refine wpAnyH_takeDw (some 64) (i := 8) (v := ?vz4q30) rfl (by kernel_rfl) (by kernel_rfl) (by kernel_rfl) (by kernel_rfl) (fun _ _ _ h => h) (Or.inl ⟨by rfl, ?hyz4q30⟩) (by assumption) ?rz4q30
                case hyz4q30 => intro w hSw; (try dsimp only at hSw); go_simp; first | done | with_reducible rfl
                case' rz4q30 => try simp only [Act.put, List.setIfInBounds_toArray, List.set_cons_zero, List.set_cons_succ]
                refine wpAnyH_ready (rs := [9]) (by kernel_rfl) (by simp) ?_
                refine AllReadyH.cons rfl (fun K9 hK => ?_) AllReadyH.nil
                go_simp
                refine hK.out _ _ trivial (fun hHz4q31 => ?_)
                clear hK K9
                try simp only [Act.put, List.setIfInBounds_toArray, List.set_cons_zero, List.set_cons_succ]
                refine wpAnyH_done (by kernel_rfl) ?_ _
                have G8 := Lib.hid (blk2_set0' (c := .slice (some ⟨gn, 0, none⟩) 2 cn) GX7)
                have R8 := Lib.hid (blk_off (o' := 0) (g' := wc.heap.size + 1 + 1) RES7 (by omega) (.slice (some ⟨gn, 0, none⟩) 2 cn))
                have M8 := Lib.hid (AffsOwn.tag hres (grown_set w7 (wc.heap.size + 1 + 1) 0 (.slice (some ⟨gn, 0, none⟩) 2 cn)) (Tag.blk GX7) (by decide) (by decide)); have O8 := Lib.hid (AffsOwn.tag hoth (grown_set w7 (wc.heap.size + 1 + 1) 0 (.slice (some ⟨gn, 0, none⟩) 2 cn)) (Tag.blk GX7) (by decide) (by decide))
                have H8 := Lib.hid (H7.set (b := wc.heap.size + 1 + 1) (o := 0) (by omega) (.slice (some ⟨gn, 0, none⟩) 2 cn)); have D8 := Lib.hid (D7.set (j := wc.heap.size + 1 + 1) (o := 0) (by omega) (.slice (some ⟨gn, 0, none⟩) 2 cn))
                clear GX7 RES7 hres hoth H7 D7 z0 z1 k0 k1
                obtain ⟨x0f, x1f, -, -⟩ := blk2 G8.out
                obtain ⟨r0f, r1f, f0f, f1f⟩ := blk2 R8.out
                go_wp2
                refine bodyPost_ret (v := .agg #[.slice (some ⟨gn, 0, none⟩) 2 cn, .slice (some ⟨wc.heap.size + 1, 0, none⟩) 1 1]) (by simp [results, Try.results77, go_sem, r0f, r1f]) rfl ⟨⟨_, _, ([(xs, ka)] ++ [([0, 0, 0, 0], y)], [(ys, kb)]), rfl, ⟨AffsOwn.res M8.out R8.out, AffsOwn.res O8.out R8.out⟩, FourA.mono (FourA.push (FourA.one XL.out) rfl) (by omega), FourA.mono (FourA.one YL.out) (by omega)⟩, ?_, ?_⟩
                · exact ((H8.out.set (by omega) _).set (by omega) _).mono (by omega)
                · exact (D8.out.set (Nat.le_refl _) _).set (Nat.le_refl _) _
              · skip
                go_simp
                refine hK.out _ _ trivial (fun hHz4q32 => ?_)
                clear hK K9
                try simp only [Act.put, List.setIfInBounds_toArray, List.set_cons_zero, List.set_cons_succ]
                refine wpAnyH_ready (rs := [1]) (by kernel_rfl) (by simp) ?_
                refine AllReadyH.cons rfl (fun K9 hK => ?_) AllReadyH.nil
                go_simp
                refine hK.out _ _ trivial (fun hHz4q33 => ?_)
                clear hK K9
                try simp only [Act.put, List.setIfInBounds_toArray, List.set_cons_zero, List.set_cons_succ]
                refine wpAnyH_ready (rs := [7]) (by kernel_rfl) (by simp) ?_
                refine AllReadyH.cons rfl (fun K9 hK => ?_) AllReadyH.nil
                (have EN : Ext v4 (v4.alloc (.cells #[.slice pN 4 cN, .int .i64 y] 36)) := (Ext.refl v4).alloc _; obtain ⟨vs, ho, he⟩ := AffsOwn.ext (AffsOwn.dr SA6.out D4 hlg) EN; have hvl := ho.1; refine step_append_lies _ rfl (.tmp 57) (.tmp 62) 49 rfl w.heap.size 36 i1 (.agg #[.slice none 0 0, .int .i64 0]) 2 32 underSliceAff ha hy0 hy1 hy2 rfl (by decide) (.slice (some ⟨wc.heap.size, 0, none⟩) 1 1) 1 vs rfl ho ⟨v4.heap.size, 0, none⟩ 1 1 [.slice pN 4 cN, .int .i64 y] rfl rfl (pair_cells rfl) (by intro u hu; simp at hu; rcases hu with rfl | rfl <;> rfl) (by omega) (by unfold maxLen; omega) (by omega) (by simp <;> omega) _ rfl ?_; intro gn cn w7 hown' hgrow' hgeq' hltg; have htag := own_tag ho; have GX7 := blk_tag (EN.blk GX4) hgrow' htag (by decide); have RES7 := blk_tag (EN.blk RES4) hgrow' htag (by decide); have hres : AffsOwn w.heap.size w7 (.slice (some ⟨gn, 0, none⟩) 2 cn) ([(xs, ka)] ++ [([0, 0, 0, 0], y)]) := PairsOwn.push (R := AffO) (fun h a b => AffO.grow h a b) rfl he hvl hown' hgrow' htag ⟨(hvN.weak (by omega)).ext EN, rfl⟩; have hoth := AffsOwn.off (a := wc.heap.size + 1) (b := wc.heap.size) (AffsOwn.ext (AffsOwn.dr SB6.out D4 hlg) EN) hgrow' htag (show wc.heap.size + 1 ≠ wc.heap.size by omega); have D7 := ((D6.out.trans D4).ext EN).fresh hgrow' (fun b hb => (ho.lt b hb).1); have H7 := ((h8.ext hE9).ext EN).beside hgrow' (fun j e => by have := (ho.lt j e).1; omega); obtain ⟨z0, z1, k0, k1⟩ := blk2 GX7)
                refine hK.out _ _ trivial (fun hHz4q34 => ?_)
                clear hK K9
                try simp only [Act.put, List.setIfInBounds_toArray, List.set_cons_zero, List.set_cons_succ]
                refine wpAnyH_takeDw (some 64) (i := 8) (v := ?vz4q35) rfl (by kernel_rfl) (by kernel_rfl) (by kernel_rfl) (by kernel_rfl) (fun _ _ _ h => h) (Or.inl ⟨by rfl, ?hyz4q35⟩) (by assumption) ?rz4q35
                case hyz4q35 => intro w hSw; (try dsimp only at hSw); go_simp; first | done | with_reducible rfl
                case' rz4q35 => try simp only [Act.put, List.setIfInBounds_toArray, List.set_cons_zero, List.set_cons_succ]
                refine wpAnyH_ready (rs := [9]) (by kernel_rfl) (by simp) ?_
                refine AllReadyH.cons rfl (fun K9 hK => ?_) AllReadyH.nil
                go_simp
                refine hK.out _ _ trivial (fun hHz4q36 => ?_)
                clear hK K9
                try simp only [Act.put, List.setIfInBounds_toArray, List.set_cons_zero, List.set_cons_succ]
                refine wpAnyH_done (by kernel_rfl) ?_ _
                have G8 := Lib.hid (blk2_set0' (c := .slice (some ⟨gn, 0, none⟩) 2 cn) GX7)
                have R8 := Lib.hid (blk_off (o' := 0) (g' := wc.heap.size + 1 + 1) RES7 (by omega) (.slice (some ⟨gn, 0, none⟩) 2 cn))
                have M8 := Lib.hid (AffsOwn.tag hres (grown_set w7 (wc.heap.size + 1 + 1) 0 (.slice (some ⟨gn, 0, none⟩) 2 cn)) (Tag.blk GX7) (by decide) (by decide)); have O8 := Lib.hid (AffsOwn.tag hoth (grown_set w7 (wc.heap.size + 1 + 1) 0 (.slice (some ⟨gn, 0, none⟩) 2 cn)) (Tag.blk GX7) (by decide) (by decide))
                have H8 := Lib.hid (H7.set (b := wc.heap.size + 1 + 1) (o := 0) (by omega) (.slice (some ⟨gn, 0, none⟩) 2 cn)); have D8 := Lib.hid (D7.set (j := wc.heap.size + 1 + 1) (o := 0) (by omega) (.slice (some ⟨gn, 0, none⟩) 2 cn))
                clear GX7 RES7 hres hoth H7 D7 z0 z1 k0 k1
                obtain ⟨x0f, x1f, -, -⟩ := blk2 G8.out
                obtain ⟨r0f, r1f, f0f, f1f⟩ := blk2 R8.out
                go_wp2
                refine bodyPost_ret (v := .agg #[.slice (some ⟨gn, 0, none⟩) 2 cn, .slice (some ⟨wc.heap.size + 1, 0, none⟩) 1 1]) (by simp [results, Try.results77, go_sem, r0f, r1f]) rfl ⟨⟨_, _, ([(xs, ka)] ++ [([0, 0, 0, 0], y)], [(ys, kb)]), rfl, ⟨AffsOwn.res M8.out R8.out, AffsOwn.res O8.out R8.out⟩, FourA.mono (FourA.push (FourA.one XL.out) rfl) (by omega), FourA.mono (FourA.one YL.out) (by omega)⟩, ?_, ?_⟩
                · exact ((H8.out.set (by omega) _).set (by omega) _).mono (by omega)
                · exact (D8.out.set (Nat.le_refl _) _).set (Nat.le_refl _) _
      have hb61 : ((r6 : Int) == 1) = false := by simp; omega
      clear h61
      obtain ⟨x0f, x1f, -, -⟩ := blk2 GX.out
      obtain ⟨r0f, r1f, f0f, f1f⟩ := blk2 RES.out
      go_wp2
      refine bodyPost_ret (v := .agg #[.slice (some ⟨wc.heap.size, 0, none⟩) 1 1, .slice (some ⟨wc.heap.size + 1, 0, none⟩) 1 1]) (by simp [results, Try.results77, go_sem, r0f, r1f]) rfl ⟨⟨_, _, ([(xs, ka)], [(ys, kb)]), rfl, ⟨AffsOwn.res SA6.out RES.out, AffsOwn.res SB6.out RES.out⟩, FourA.mono (FourA.one XL.out) (by omega), FourA.mono (FourA.one YL.out) (by omega)⟩, ?_, ?_⟩
      · exact ((H6.out.set (by omega) _).set (by omega) _).mono (by omega)
      · exact (D6.out.set (Nat.le_refl _) _).set (Nat.le_refl _) _
end Go.Proofs.Ytccibfldadflkaa
