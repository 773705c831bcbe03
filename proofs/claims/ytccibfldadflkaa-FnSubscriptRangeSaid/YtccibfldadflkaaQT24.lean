/- The texts R14, joined. No statement is proved here. -/
import Derived.Test.YtccibfldadflkaaQT23
/- The program's NestPoints: the consumer of the iterator. No statement is proved here. -/
namespace Go.Proofs.Ytccibfldadflkaa
open Go.RowKit
attribute [local go_sem] Oper.semAt_some

/-- What the consumer's boxes hold. -/
def NpI (N1 R1 R2 P V B n c : Nat) (pn : Option Addr) (s : List (List Int)) (own : List Nat) (X : World) : Prop :=
  ∃ own1 v, own = N1 :: R1 :: R2 :: P :: V :: own1 ∧ (∀ b ∈ own1, B ≤ b ∧ b ≠ N1 ∧ b ≠ R1 ∧ b ≠ R2 ∧ b ≠ P ∧ b ≠ V) ∧ X.heap[N1]? = some (.cells #[.slice pn n c] 34 (0, 0)) ∧ X.heap[R1]? = some (.cells #[.slice none 0 0] 44 (0, 0)) ∧ X.heap[R2]? = some (.cells #[.bool false] 4 (0, 0)) ∧
    X.heap[V]? = some (.cells #[.int .i64 (s.length : Nat)] 3 (0, 0)) ∧ s.length ≤ 1200 ∧ (s.filter (fun x => decide (x.length = n))).length ≤ 120 ∧
    X.heap[P]? = some (.cells #[v] 44 (0, 0)) ∧ PtsD own1 B X v (s.filter (fun x => decide (x.length = n)))
/-- What they hold when a limit is passed. -/
def NpX (R1 R2 n : Nat) (cd : Code) (s : List (List Int)) (own : List Nat) (X : World) : Prop :=
  cd = .ret ∧ R1 ∈ own ∧ R2 ∈ own ∧ X.heap[R1]? = some (.cells #[.slice none 0 0] 44 (0, 0)) ∧ X.heap[R2]? = some (.cells #[.bool false] 4 (0, 0)) ∧ (1200 < s.length ∨ 120 < (s.filter (fun x => decide (x.length = n))).length)
theorem lv_own {own : List Nat} {X X' : World} (hv : Lv (fun k => k ∉ own) X X') {k : Nat} {o : Obj} (h : X.heap[k]? = some o) (hk : k ∈ own) : X'.heap[k]? = some o := hv.heap h (fun h => h hk)
theorem NpI.stable (N1 R1 R2 P V B n c : Nat) (pn : Option Addr) : Stable (NpI N1 R1 R2 P V B n c pn) := by
  rintro s own X X' ⟨own1, v, rfl, h2, h3, h4, h5, h6, h7, h8, h9, h10⟩ hv
  exact ⟨own1, v, rfl, h2, lv_own hv h3 (by simp), lv_own hv h4 (by simp), lv_own hv h5 (by simp), lv_own hv h6 (by simp), h7, h8, lv_own hv h9 (by simp), h10.lv (hv.mono (fun b _ h h' => h (by simp [h'])))⟩
theorem NpX.stable (R1 R2 n : Nat) (cd : Code) : Stable (NpX R1 R2 n cd) := by
  rintro s own X X' ⟨h1, h2, h3, h5, h6, h7⟩ hv
  exact ⟨h1, h2, h3, lv_own hv h5 h2, lv_own hv h6 h3, h7⟩
theorem blk1 {W : World} {g : Nat} {a : Value} {t : TypeId} (h : W.heap[g]? = some (.cells #[a] t (0, 0))) : W.cell? ⟨g, 0, none⟩ = some a ∧ W.frozen? ⟨g, 0, none⟩ = false := by
  simp [World.cell?, World.frozen?, h]
theorem blk1_set {W : World} {g : Nat} {a b : Value} {t : TypeId} (h : W.heap[g]? = some (.cells #[a] t (0, 0))) : (W.setCell ⟨g, 0, none⟩ b).heap[g]? = some (.cells #[b] t (0, 0)) := by
  simpa using heap_setCell_same W g 0 #[a] t b h

theorem lv_set (W : World) (g o : Nat) (u : Value) : Lv (fun k => k = g) W (W.setCell ⟨g, o, none⟩ u) := Lv.grown (grown_set W g o u) (fun _ e _ => (Option.some.inj e).symm)
theorem grew_sets {own own' : List Nat} {X Y : World} {g g' : Nat} {u u' : Value} (h : Grew own own' X Y) (hg : g ∈ own) (hg' : g' ∈ own) : Grew own own' X ((Y.setCell ⟨g, 0, none⟩ u).setCell ⟨g', 0, none⟩ u') := by
  refine ⟨(h.1.trans (lv_set Y g 0 u) (E := fun k => k ∈ own) (fun _ _ h => h) (fun _ _ h => h ▸ hg)).trans (lv_set _ g' 0 u') (fun _ _ h => h) (fun _ _ h => h ▸ hg'), fun b hb => ?_⟩
  have := h.2 b hb
  exact ⟨this.1, by simpa using this.2⟩
theorem PtsD.form {own : List Nat} {B : Nat} {X : World} {v : Value} {xss : List (List Int)} (h : PtsD own B X v xss) : ∃ p c, v = .slice p xss.length c := by
  obtain ⟨vs, ho, _⟩ := h
  rcases ho.2 with ⟨rfl, hn⟩ | ⟨g, cap, cur, rfl, _⟩
  · exact ⟨none, 0, by rw [hn]⟩
  · exact ⟨_, _, rfl⟩
theorem row_ints {bp : Nat} {x : List Int} {V : World} (h : RowX bp x V) : ∀ i z, x[i]? = some z → V.drew.cell? ((⟨bp, 0, none⟩ : Addr).add i) = some (.int .i64 z) := by
  intro i z hz
  exact World.ownsRow.cells h (g := bp) rfl i (.int .i64 z) (by simp [hz])

set_option linter.unusedVariables false in
set_option maxRecDepth 100000 in
set_option maxHeartbeats 4000000 in
theorem NestPoints_any (p : Option Addr) (n c : Nat) (ls : List Lp) (w : World) (hn : ls.length = n) (hs : LoopsAt w (.slice p n c) ls) :
    Calls Try.prog 20 #[.slice p n c] w fun e w' => (∃ v' own, e = .returned (.tuple #[v', .bool (nptsB ls)]) ∧ PtsD own w.heap.size w' v' (nptsL ls) ∧ ∀ b ∈ own, w.heap.size ≤ b ∧ b < w'.heap.size) ∧ Ext w w' := by
  have HS := Lib.hid hs; have HN := Lib.hid hn; clear hs hn
  refine (callsIn_wide (n := 6)).1 ?_
  refine callsIn_of_wp_marks Try.func20 rfl trivial ?_ rfl
  simp only [Try.ntmps20, List.size_toArray, List.length_cons, List.length_nil, Nat.reduceAdd, Nat.reduceSub, Array.replicate_succ, Array.replicate_zero, List.push_toArray, List.append_toArray, List.nil_append, List.cons_append]
  have hdd : ∀ j : Nat, (Fence.wide.depth.isSome = true → 1 ≤ j) := fun j h => by cases h
  generalize hga : w.heap.size = ga at *
  have HGA := Lib.hid hga
  gi_wp2_with (fail)
  refine ⟨trivial, ?_⟩
  refine (callsIn_wide.2 (NestValid_any p n c ls _ HN.out (HS.out.ext ((((Ext.refl w).alloc _).alloc _).alloc _)))).mono ?_
  rintro e w1 ⟨rfl, hE⟩
  have E1 : Hid (Ext w w1) := Lib.hid (((((Ext.refl w).alloc _).alloc _).alloc _).trans hE)
  have B0 := hE.blk (g := ga) (blk_old (blk_old (blk_at HGA.out.symm)))
  have B1 := hE.blk (g := ga + 1) (blk_old (blk_at (by simp [HGA.out])))
  have B2 := hE.blk (g := ga + 1 + 1) (blk_at (by simp [HGA.out]))
  have hl := lt_of_block B2
  clear hE
  obtain ⟨c0, -⟩ := blk1 B0
  obtain ⟨c1, f1⟩ := blk1 B1
  obtain ⟨c2, f2⟩ := blk1 B2
  cases hnb : nestB ls with
  | false =>
    have HNP : Hid (nptsB ls = false) := Lib.hid (by simp [nptsB, hnb])
    clear hnb
    have B1' := blk_off (g' := ga + 1 + 1) (o' := 0) (blk1_set (b := .slice none 0 0) B1) (by omega) (.bool false)
    have B2' := blk1_set (b := .bool false) (blk_off (g' := ga + 1) (o' := 0) B2 (by omega) (.slice none 0 0))
    have E2 : Hid (Ext w ((w1.setCell ⟨ga + 1, 0, none⟩ (.slice none 0 0)).setCell ⟨ga + 1 + 1, 0, none⟩ (.bool false))) := Lib.hid ((E1.out.setCell (by rw [HGA.out]; simp) _).setCell (by rw [HGA.out]; simp; omega) _)
    have HB1 := Lib.hid B1'; have HB2 := Lib.hid B2'
    clear B1' B2'
    gi_wp2
    refine leaves_marks2 [] _ (by simp) (by simp) (fun W' hW' => ?_)
    obtain ⟨r1, -⟩ := blk1 (hW'.heap HB1.out (by simp))
    obtain ⟨r2, -⟩ := blk1 (hW'.heap HB2.out (by simp))
    refine ⟨.tuple #[.slice none 0 0, .bool false], by simp [results, Try.results20, go_sem, r1, r2], ⟨.slice none 0 0, [], by rw [HNP.out], ?_, by simp⟩, ?_⟩
    · rw [show nptsL ls = [] by simp [nptsL, HNP.out]]; exact PtsD.nil _ _ _
    · exact hW'.ext0 E2.out (by simp)
  | true =>
    have HNB := Lib.hid hnb
    clear hnb
    gi_wp2
    obtain ⟨w3, hw3⟩ : ∃ w3, (w1.alloc (.cells #[.slice none 0 0] 44)).alloc (.cells #[.int .i64 0] 3) = w3 := ⟨_, rfl⟩
    have BP : w3.heap[w1.heap.size]? = some (.cells #[.slice none 0 0] 44 (0, 0)) := by rw [← hw3]; exact blk_old (blk_at rfl)
    have BV : w3.heap[w1.heap.size + 1]? = some (.cells #[.int .i64 0] 3 (0, 0)) := by rw [← hw3]; exact blk_at (by simp)
    have E13 : Ext w1 w3 := by rw [← hw3]; exact ((Ext.refl w1).alloc _).alloc _
    have B0' := E13.blk B0; have B1' := E13.blk B1; have B2' := E13.blk B2
    have HS3 : Hid (w3.heap.size = w1.heap.size + 2) := Lib.hid (by rw [← hw3]; simp)
    have E3 := Lib.hid (E1.out.trans E13)
    rw [hw3]
    clear hw3 E13 B0 B1 B2 c0 c1 c2 f1 f2 E1
    obtain ⟨c0, -⟩ := blk1 B0'
    obtain ⟨i0, hi, hz0, hz1, hz2⟩ := info_parts infoInt
    obtain ⟨w4, hmk, hown4, hgr4⟩ := run_make_own (P := Try.prog) w3.drew w3.heap.size 22 3 i0 (.int .i64 0) 1 Try.underlying22 hi hz0 hz1 .i64 .i64 4 (by rw [hz2]; omega) (by unfold maxLen; omega) (Nat.le_refl _)
    replace hmk : Sem.run Try.prog (Instr.makeSlice 22 (.int .i64 0) (.int .i64 4)) w3.drew = .ok (.slice (some ⟨w3.heap.size, 0, none⟩) 0 4) w4 := hmk
    have c4 := hgr4.cell (a := ⟨ga, 0, none⟩) (v := .slice p n c) c0 (by simp)
    refine wpIn_wide.2 ?_
    go_region_held3 (fun W => W.cell? ⟨ga, 0, none⟩ = some (.slice p n c))
      (first | exact c0 | exact c4 | exact c6 | fail)
      (first
        | (go_at_call 50; refine (prefixes_call _ _ _ _ _ _ _).mono ?_; rintro e w6 ⟨rfl, rfl⟩; have c6 := (((Ext.refl w4).alloc (.cells #[.slice p n c] 34)).alloc (.cells #[.slice (some ⟨w3.heap.size, 0, none⟩) 0 4] 22)).keep c4)
        | fail)
    obtain ⟨w6, hw6⟩ : ∃ w6, ((w4.alloc (.cells #[.slice p n c] 34)).alloc (.cells #[.slice (some ⟨w3.heap.size, 0, none⟩) 0 4] 22)) = w6 := ⟨_, rfl⟩
    have hv36 : Lv (fun _ => False) w3 w6 := ((Lv.drew0 (fun _ => False) w3).trans (Lv.grown (D := fun _ => False) hgr4 (fun r e _ => by cases e)) (E := fun _ => False) (fun _ _ h => h) (fun _ _ h => h)).trans (by rw [← hw6]; exact (Lv.alloc _ w4 _).trans (Lv.alloc (fun _ => False) _ _) (fun _ _ h => h) (fun _ _ h => h)) (fun _ _ h => h) (fun _ _ h => h)
    have hv46 : Lv (fun _ => False) w4 w6 := by rw [← hw6]; exact (Lv.alloc _ w4 _).trans (Lv.alloc (fun _ => False) _ _) (fun _ _ h => h) (fun _ _ h => h)
    have hrow6 : RowX w3.heap.size [] w6 := RowX.lv (D := fun _ => False) (V := w4) ⟨rfl, by
      rcases hown4.2 with ⟨h, _⟩ | ⟨g, cap, cur, h, h1, h2, h3⟩
      · cases h
      · exact .inr ⟨g, cap, cur, h, Nat.zero_le _, h2, h3⟩⟩ hv46 (fun h => h)
    have hs36 : w3.heap.size < w4.heap.size := (hown4.lt _ rfl).2
    have hs46 : w6.heap.size = w4.heap.size + 2 := by rw [← hw6]; simp
    have HN6 : Hid (w6.heap[w4.heap.size]? = some (.cells #[.slice p n c] 34 (0, 0))) := Lib.hid (by
      rw [← hw6]; exact (Below.heap_alloc _ _ _ (by simp)).trans (World.alloc_heap_new w4 _))
    have HP6 : Hid (w6.heap[w4.heap.size + 1]? = some (.cells #[.slice (some ⟨w3.heap.size, 0, none⟩) 0 4] 22 (0, 0))) := Lib.hid (by
      rw [← hw6]; exact blk_at (by simp))
    have D0 := hv36.heap B0' (fun h => h)
    have D1 := hv36.heap B1' (fun h => h)
    have D2 := hv36.heap B2' (fun h => h)
    have DP := hv36.heap BP (fun h => h)
    have DV := hv36.heap BV (fun h => h)
    have E6 : Hid (Ext w w6) := Lib.hid (hv36.ext0 E3.out (fun _ _ h => h))
    have hs3 := HS3.out
    have hga := HGA.out
    have hn4 : n ≤ 4 := by have := (nestB_iff.1 HNB.out).1; rw [HN.out] at this; exact this
    have HZ6 : Hid (∀ b, (b < ga ∨ b = w3.heap.size ∨ b = w4.heap.size + 1 ∨ b = w4.heap.size) → b < w6.heap.size) := Lib.hid (fun b h => by omega)
    have HI0 : Hid (NpI ga (ga + 1) (ga + 1 + 1) w1.heap.size (w1.heap.size + 1) ga n c p [] [ga, ga + 1, ga + 1 + 1, w1.heap.size, w1.heap.size + 1] w6) := Lib.hid ⟨[], _, rfl, fun b h => by simp at h, D0, D1, D2, DV, by simp, by simp, DP, PtsD.nil _ _ _⟩
    have HO0 : Hid (∀ b ∈ [ga, ga + 1, ga + 1 + 1, w1.heap.size, w1.heap.size + 1], b < w6.heap.size ∧ ¬ (b < ga ∨ b = w3.heap.size ∨ b = w4.heap.size + 1 ∨ b = w4.heap.size)) := Lib.hid (fun b h => by simp at h; omega)
    have HR6 := Lib.hid hrow6
    rw [hw6]
    clear hs3 hw6 hv36 hv46 hrow6 hown4 hgr4 hmk c4 c6 c0 B0' B1' B2' BP BV D0 D1 D2 DP DV hi hz0 hz1 hz2
    gi_wp2
    refine wpIn_rangeFunc_sep (w := w6) rfl (hdd _) (gf := 79) (lb := #[.pointer (some ⟨w4.heap.size + 1, 0, none⟩), .pointer (some ⟨w4.heap.size, 0, none⟩)]) rfl trivial (enters_of Try.func79 (by kernel_rfl) rfl)
      (prefixes_sep w ls HNB.out n c p HS.out HN.out hn4 n w3.heap.size (w4.heap.size + 1) w4.heap.size [] (fun b => b < ga ∨ b = w3.heap.size ∨ b = w4.heap.size + 1 ∨ b = w4.heap.size) w6 E6.out PB.nil (by simp) HR6.out (by have := HS3.out; rw [HGA.out]; omega) HP6.out HN6.out (.inr (.inl rfl)) (.inr (.inr (.inl rfl))) (.inr (.inr (.inr rfl))) (fun b h => .inl (by rwa [HGA.out] at h)) HZ6.out _ _)
      HZ6.out (fun b e => .inr (.inl e)) (fun x W1 W2 h hv => RowX.lv h hv (fun h => h rfl)) (fun W1 W2 h hv => RowX.lv h hv (fun h => h rfl)) (fun _ => rfl)
      (NpI ga (ga + 1) (ga + 1 + 1) w1.heap.size (w1.heap.size + 1) ga n c p) (NpX (ga + 1) (ga + 1 + 1) n) (NpI.stable _ _ _ _ _ _ _ _ _) (fun cd => NpX.stable _ _ _ cd) _ HO0.out HI0.out ?a1 ?assign ?body ?done ?stop
    case assign =>
      intro l2 y X K hK
      simp only [encX]
      gi_wp2
      exact hK
    case body =>
      rintro l2 pre0 y ow X ⟨own1, v, rfl, hown1, k0, k1, k2, kV, ha, hf, kP, hpd⟩ hpx hrx hob
      have hs3 := HS3.out
      obtain ⟨a, hla⟩ : ∃ a, pre0.length = a := ⟨_, rfl⟩
      obtain ⟨mm0, hlm⟩ : ∃ m, (pre0.filter (fun x => decide (x.length = n))).length = m := ⟨_, rfl⟩
      have hya : y ∈ pre ls n [] := by obtain ⟨t, ht⟩ := hpx; rw [← ht]; simp
      have hy4 : y.length ≤ n := by have := (pre_PB HNB.out n [] (by simp [HN.out]) PB.nil y hya).2; rwa [HN.out] at this
      rw [hla] at ha kV
      obtain ⟨q, dd, rfl⟩ : ∃ q dd, v = .slice q mm0 dd := by obtain ⟨p', c', e⟩ := (hpd.form); rw [hlm] at e; exact ⟨p', c', e⟩
      have HLA := Lib.hid hla; have FM := Lib.hid hlm
      rw [hlm] at hf
      obtain ⟨cV, fV⟩ := blk1 kV
      have hbb : ∀ b ∈ own1, b < X.heap.size := fun b hb => (hob b (by simp [hb])).1
      have hVX : w1.heap.size + 1 < X.heap.size := (hob (w1.heap.size + 1) (by simp)).1
      obtain ⟨X1, hX1⟩ : ∃ X1, X.setCell ⟨w1.heap.size + 1, 0, none⟩ (.int .i64 ((a : Int) + 1)) = X1 := ⟨_, rfl⟩
      have LX : Lv (fun k => k = w1.heap.size + 1) X X1 := by rw [← hX1]; exact lv_set X _ _ _
      have K0 := Lib.hid (LX.heap k0 (by omega)); have K1 := Lib.hid (LX.heap k1 (by omega)); have K2 := Lib.hid (LX.heap k2 (by omega)); have KP1 := Lib.hid (LX.heap kP (by omega))
      have KV : Hid (X1.heap[w1.heap.size + 1]? = some (.cells #[.int .i64 ((a : Int) + 1)] 3 (0, 0))) := Lib.hid (by rw [← hX1]; exact blk1_set kV)
      have PD1 := Lib.hid (hpd.lv (LX.mono (fun b _ h h' => (hown1 b h').2.2.2.2.2 h)))
      have RX1 := Lib.hid (RowX.lv hrx LX (by omega))
      have LEN : Hid ((pre0 ++ [y]).length = a + 1) := Lib.hid (by rw [List.length_append, HLA.out]; rfl)
      have HLX := Lib.hid LX; have OWN1 := Lib.hid hown1; have HBB := Lib.hid hbb
      have hs1 : X1.heap.size = X.heap.size := by rw [← hX1]; simp
      have HSX := Lib.hid hs1
      have HPD := Lib.hid hpd
      clear hs3 k0 k1 k2 kP hpd hrx hla hlm LX hown1 hya hob hbb hs1 hpx
      have cN := (blk1 K0.out).1
      by_cases hyn : y.length = n
      · subst hyn
        have hbe : ((y.length : Int) == (y.length : Int)) = true := by simp
        have FIL : Hid (((pre0 ++ [y]).filter (fun x => decide (x.length = y.length))).length = mm0 + 1) := Lib.hid (by rw [List.filter_append, List.length_append, FM.out]; simp)
        obtain ⟨iS, hSi, hSz, hS1, hS2⟩ := info_parts infoSS
        have ICE : Hid (∀ i x, y[i]? = some x → X1.drew.cell? ((⟨w3.heap.size, 0, none⟩ : Addr).add i) = some (.int .i64 x)) := Lib.hid (row_ints RX1.out)
        have hPX := lt_of_block KP1.out
        have cV1 := (blk1 KV.out).1
        gi_wp2
        clear hX1 cV fV kV cV1 cN
        have cP1 := (blk1 KP1.out).1
        refine wpIn_round_held (S := (fun _ => True)) (by kernel_rfl) (by kernel_rfl) (fun ⟨_, _, h⟩ => h) trivial (fun hHeld => ?_)
        refine wpAnyH_takeDw (some 22) (i := 1) (v := ?vzn1) rfl (by kernel_rfl) (by kernel_rfl) (by kernel_rfl) (by kernel_rfl) (fun _ _ _ h => h) (Or.inl ⟨by rfl, ?hyzn1⟩) (by assumption) ?rzn1
        case hyzn1 => intro w hSw; (try dsimp only at hSw); go_simp; first | done | with_reducible rfl
        case' rzn1 => try simp only [Act.put, List.setIfInBounds_toArray, List.set_cons_zero, List.set_cons_succ]
        refine wpAnyH_ready (rs := [0, 2]) (by kernel_rfl) (by simp) ?_
        refine AllReadyH.cons rfl (fun K9 hK => ?_) (AllReadyH.cons rfl (fun K9 hK => ?_) AllReadyH.nil)
        · skip
          go_simp
          refine hK.out _ _ trivial (fun hHzn2 => ?_)
          clear hK K9
          try simp only [Act.put, List.setIfInBounds_toArray, List.set_cons_zero, List.set_cons_succ]
          refine wpAnyH_ready (rs := [2]) (by kernel_rfl) (by simp) ?_
          refine AllReadyH.cons rfl (fun K9 hK => ?_) AllReadyH.nil
          (go_simp; refine (cloneNew_any ⟨w3.heap.size, 0, none⟩ y.length 4 y _ rfl ICE.out (by omega)).mono ?_; rintro e v4 ⟨g, cg, rfl, hvg, hg0, hg1, hE4⟩; have EX : Ext X1 v4 := (Ext.refl X1).drew.trans hE4; have KP4 := EX.blk KP1.out; have cP4 := (blk1 KP4).1; have cP5 := (blk1 (((Ext.refl v4).alloc (.cells #[.slice (some ⟨g, 0, none⟩) y.length cg] 22)).blk KP4)).1)
          refine hK.out _ _ trivial (fun hHzn3 => ?_)
          clear hK K9
          try simp only [Act.put, List.setIfInBounds_toArray, List.set_cons_zero, List.set_cons_succ]
          refine wpAnyH_ready (rs := [3]) (by kernel_rfl) (by simp) ?_
          refine AllReadyH.cons rfl (fun K9 hK => ?_) AllReadyH.nil
          go_simp
          refine hK.out _ _ trivial (fun hHzn4 => ?_)
          clear hK K9
          try simp only [Act.put, List.setIfInBounds_toArray, List.set_cons_zero, List.set_cons_succ]
          refine wpAnyH_ready (rs := [4]) (by kernel_rfl) (by simp) ?_
          refine AllReadyH.cons rfl (fun K9 hK => ?_) AllReadyH.nil
          (have EA : Ext v4 (v4.alloc (.cells #[.slice (some ⟨g, 0, none⟩) y.length cg] 22)) := (Ext.refl v4).alloc _; have EXA := EX.trans EA; obtain ⟨vs, ho, hob5, he⟩ := PD1.out.lv (EXA.lv); rw [FM.out] at ho; have hvl := ho.1; have htag := own_tag ho; refine step_append_at _ rfl (.tmp 21) (.tmp 24) 44 rfl ga 22 iS (.slice none 0 0) 1 24 Try.underlying44 hSi hSz hS1 hS2 rfl (by decide) (.slice q mm0 dd) mm0 vs rfl ho ⟨v4.heap.size, 0, none⟩ 1 1 [.slice (some ⟨g, 0, none⟩) y.length cg] rfl rfl (one_cell rfl) (by intro u hu; simp at hu; subst hu; rfl) (by unfold maxLen; omega) (by omega) (by have := EXA.size_le; omega) ?_; intro v' w7 hown7 hgr7 hnil7 hat7; obtain ⟨gq, dq, rfl, hdq⟩ := own_form' hown7 (fun e => by have := (hnil7.1 e).2; omega); have KP7 := blk_tag (EXA.blk KP1.out) hgr7 htag (by decide); have cP7 := (blk1 KP7).1; have fP7 := (blk1 KP7).2)
          refine hK.out _ _ trivial (fun hHzn5 => ?_)
          clear hK K9
          try simp only [Act.put, List.setIfInBounds_toArray]
          refine wpAnyH_ready (rs := [5]) (by kernel_rfl) (by simp) ?_
          refine AllReadyH.cons rfl (fun K9 hK => ?_) AllReadyH.nil
          go_simp
          refine hK.out _ _ trivial (fun hHzn6 => ?_)
          clear hK K9
          try simp only [Act.put]
          refine wpAnyH_done (by kernel_rfl) ?_ _
          have hxa := EXA.size_le; have hx17 := hgr7.size; have hsx := HSX.out
          have MOV : ∀ {k : Nat} {cs : Array Value} {T : TypeId}, T ≠ 22 → k ≠ w1.heap.size → X1.heap[k]? = some (.cells cs T (0, 0)) → (w7.setCell ⟨w1.heap.size, 0, none⟩ (.slice (some ⟨gq, 0, none⟩) (mm0 + 1) dq)).heap[k]? = some (.cells cs T (0, 0)) := fun hT hk h => blk_off (blk_tag (EXA.blk h) hgr7 htag (fun e => hT e.symm)) hk _
          have GQ : gq ∈ own1 ∨ X1.heap.size ≤ gq := by
            rcases hat7 with h | h
            · exact .inl (hob5 gq h.symm)
            · simp only [Value.ownBlock, Option.some.injEq] at h; exact .inr (by rw [h]; exact hxa)
          have hgl := (hown7.lt gq rfl).2
          have hg4 : X1.heap.size ≤ g := hg0
          have hgs : g < w7.heap.size := by have h1 := hgr7.size; simp only [World.size_alloc] at h1; omega
          have K0' := Lib.hid (MOV (by decide) (by omega) K0.out); have K1' := Lib.hid (MOV (by decide) (by omega) K1.out); have K2' := Lib.hid (MOV (by decide) (by omega) K2.out); have KV' := Lib.hid (MOV (by decide) (by omega) KV.out)
          have KP' := Lib.hid (blk1_set (b := .slice (some ⟨gq, 0, none⟩) (mm0 + 1) dq) KP7)
          have OWN' : Hid (∀ b ∈ own1 ++ g :: [gq], ga ≤ b ∧ b ≠ ga ∧ b ≠ ga + 1 ∧ b ≠ ga + 1 + 1 ∧ b ≠ w1.heap.size ∧ b ≠ w1.heap.size + 1) := Lib.hid (fun b hb => by
            rcases List.mem_append.1 hb with h | h
            · exact OWN1.out b h
            · simp only [List.mem_cons, List.not_mem_nil, or_false] at h
              rcases h with rfl | rfl
              · omega
              · rcases GQ with h | h
                · exact OWN1.out b h
                · omega)
          have PTD' : Hid (PtsD (own1 ++ g :: [gq]) ga (w7.setCell ⟨w1.heap.size, 0, none⟩ (.slice (some ⟨gq, 0, none⟩) (mm0 + 1) dq)) (.slice (some ⟨gq, 0, none⟩) (mm0 + 1) dq) ((pre0 ++ [y]).filter (fun x => decide (x.length = y.length)))) := Lib.hid (by
            have h1 := PtsD.push (X0 := X1) FM.out (by omega) (fun b hb => by rw [hsx]; exact HBB.out b hb) he ((hvg.weak (B' := ga) (by show ga ≤ X1.heap.size; omega)).ext EA) hg4 hown7 hgr7 htag
            rw [List.filter_append]
            simpa [Value.ownBlock] using h1.lv ((lv_set w7 w1.heap.size 0 (.slice (some ⟨gq, 0, none⟩) (mm0 + 1) dq)).mono (fun b _ h h' => (OWN'.out b h').2.2.2.2.1 h)))
          have GRW' : Hid (Grew (ga :: (ga + 1) :: (ga + 1 + 1) :: w1.heap.size :: (w1.heap.size + 1) :: own1) (ga :: (ga + 1) :: (ga + 1 + 1) :: w1.heap.size :: (w1.heap.size + 1) :: (own1 ++ g :: [gq])) X (w7.setCell ⟨w1.heap.size, 0, none⟩ (.slice (some ⟨gq, 0, none⟩) (mm0 + 1) dq))) := Lib.hid ⟨(((HLX.out.trans (EXA.lv (D := fun _ => False)) (E := fun k => k ∈ ga :: (ga + 1) :: (ga + 1 + 1) :: w1.heap.size :: (w1.heap.size + 1) :: own1) (fun b _ h => by simp [h]) (fun _ _ h => h.elim)).trans (Lv.grown (D := fun k => k ∈ own1) hgr7 (fun r e _ => hob5 r e)) (fun _ _ h => h) (fun b _ h => by simp [h])).trans (lv_set w7 w1.heap.size 0 _) (fun _ _ h => h) (fun b _ h => by simp [h])), fun b hb => by
            simp only [List.mem_cons, List.mem_append, List.not_mem_nil, or_false] at hb
            simp only [World.size_setCell, List.mem_cons]
            rcases hb with hb | hb | hb | hb | hb | hb | hb | hb
            · omega
            · omega
            · omega
            · omega
            · omega
            · exact ⟨by simp [hb], by have := HBB.out b hb; omega⟩
            · omega
            · subst hb
              rcases GQ with h | h
              · exact ⟨by simp [h], hgl⟩
              · exact ⟨by omega, hgl⟩⟩
          have KVL' : Hid ((w7.setCell ⟨w1.heap.size, 0, none⟩ (.slice (some ⟨gq, 0, none⟩) (mm0 + 1) dq)).heap[w1.heap.size + 1]? = some (.cells #[.int .i64 ((pre0 ++ [y]).length : Nat)] 3 (0, 0))) := Lib.hid (by rw [LEN.out]; exact KV'.out)
          generalize hY : w7.setCell ⟨w1.heap.size, 0, none⟩ (.slice (some ⟨gq, 0, none⟩) (mm0 + 1) dq) = Y at *
          clear hY MOV GQ hgl hg4 hgs hxa hx17 KP7 cP7 fP7 hown7 hgr7 hnil7 hat7 ho hob5 he hvl htag EA EXA EX KP4 cP4 cP5 hvg hg0 hg1 hE4 K0 K1 K2 KV KP1
          have cV := (blk1 KV'.out).1; have cP := (blk1 KP'.out).1; have f1 := (blk1 K1'.out).2; have f2 := (blk1 K2'.out).2; have cE1 := (blk1 K1'.out).1; have cE2 := (blk1 K2'.out).1
          have NPX : (1200 < (pre0 ++ [y]).length ∨ 120 < ((pre0 ++ [y]).filter (fun x => decide (x.length = y.length))).length) → Grew (ga :: (ga + 1) :: (ga + 1 + 1) :: w1.heap.size :: (w1.heap.size + 1) :: own1) (ga :: (ga + 1) :: (ga + 1 + 1) :: w1.heap.size :: (w1.heap.size + 1) :: (own1 ++ g :: [gq])) X ((Y.setCell ⟨ga + 1, 0, none⟩ (.slice none 0 0)).setCell ⟨ga + 1 + 1, 0, none⟩ (.bool false)) ∧ NpX (ga + 1) (ga + 1 + 1) y.length .ret (pre0 ++ [y]) (ga :: (ga + 1) :: (ga + 1 + 1) :: w1.heap.size :: (w1.heap.size + 1) :: (own1 ++ g :: [gq])) ((Y.setCell ⟨ga + 1, 0, none⟩ (.slice none 0 0)).setCell ⟨ga + 1 + 1, 0, none⟩ (.bool false)) := fun h =>
            ⟨grew_sets GRW'.out (by simp) (by simp), rfl, by simp, by simp, blk_off (blk1_set K1'.out) (by omega) _, blk1_set (blk_off K2'.out (by omega) _), h⟩
          have NPI : (pre0 ++ [y]).length ≤ 1200 → ((pre0 ++ [y]).filter (fun x => decide (x.length = y.length))).length ≤ 120 → NpI ga (ga + 1) (ga + 1 + 1) w1.heap.size (w1.heap.size + 1) ga y.length c p (pre0 ++ [y]) (ga :: (ga + 1) :: (ga + 1 + 1) :: w1.heap.size :: (w1.heap.size + 1) :: (own1 ++ g :: [gq])) Y := fun g1 g2 =>
            ⟨own1 ++ g :: [gq], _, rfl, OWN'.out, K0'.out, K1'.out, K2'.out, KVL'.out, g1, g2, KP'.out, PTD'.out⟩
          by_cases h1 : 1200 < a + 1
          · have d1 : decide ((1200 : Int) < (a : Int) + 1) = true := by simp; omega
            have Z1 := Lib.hid (NPX (.inl (by rw [LEN.out]; exact h1)))
            clear NPX NPI
            gi_wp2
            exact ⟨_, Z1.out.1, Z1.out.2⟩
          · have d1 : decide ((1200 : Int) < (a : Int) + 1) = false := by simp; omega
            by_cases h2 : 120 < mm0 + 1
            · have d2 : decide ((120 : Int) < (mm0 : Int) + 1) = true := by simp; omega
              have Z1 := Lib.hid (NPX (.inr (by rw [FIL.out]; exact h2)))
              clear NPX NPI
              gi_wp2
              exact ⟨_, Z1.out.1, Z1.out.2⟩
            · have d2 : decide ((120 : Int) < (mm0 : Int) + 1) = false := by simp; omega
              have Z1 := Lib.hid (NPI (by rw [LEN.out]; omega) (by rw [FIL.out]; omega))
              clear NPX NPI
              gi_wp2
              exact ⟨_, GRW'.out, Z1.out⟩
        · skip
          (go_simp; refine (cloneNew_any ⟨w3.heap.size, 0, none⟩ y.length 4 y _ rfl ICE.out (by omega)).mono ?_; rintro e v4 ⟨g, cg, rfl, hvg, hg0, hg1, hE4⟩; have EX : Ext X1 v4 := (Ext.refl X1).drew.trans hE4; have KP4 := EX.blk KP1.out; have cP4 := (blk1 KP4).1; have cP5 := (blk1 (((Ext.refl v4).alloc (.cells #[.slice (some ⟨g, 0, none⟩) y.length cg] 22)).blk KP4)).1)
          refine hK.out _ _ trivial (fun hHzn7 => ?_)
          clear hK K9
          try simp only [Act.put, List.setIfInBounds_toArray, List.set_cons_zero, List.set_cons_succ]
          refine wpAnyH_ready (rs := [0, 3]) (by kernel_rfl) (by simp) ?_
          refine AllReadyH.cons rfl (fun K9 hK => ?_) (AllReadyH.cons rfl (fun K9 hK => ?_) AllReadyH.nil)
          · skip
            go_simp
            refine hK.out _ _ trivial (fun hHzn8 => ?_)
            clear hK K9
            try simp only [Act.put, List.setIfInBounds_toArray, List.set_cons_zero, List.set_cons_succ]
            refine wpAnyH_ready (rs := [3]) (by kernel_rfl) (by simp) ?_
            refine AllReadyH.cons rfl (fun K9 hK => ?_) AllReadyH.nil
            go_simp
            refine hK.out _ _ trivial (fun hHzn9 => ?_)
            clear hK K9
            try simp only [Act.put, List.setIfInBounds_toArray, List.set_cons_zero, List.set_cons_succ]
            refine wpAnyH_ready (rs := [4]) (by kernel_rfl) (by simp) ?_
            refine AllReadyH.cons rfl (fun K9 hK => ?_) AllReadyH.nil
            (have EA : Ext v4 (v4.alloc (.cells #[.slice (some ⟨g, 0, none⟩) y.length cg] 22)) := (Ext.refl v4).alloc _; have EXA := EX.trans EA; obtain ⟨vs, ho, hob5, he⟩ := PD1.out.lv (EXA.lv); rw [FM.out] at ho; have hvl := ho.1; have htag := own_tag ho; refine step_append_at _ rfl (.tmp 21) (.tmp 24) 44 rfl ga 22 iS (.slice none 0 0) 1 24 Try.underlying44 hSi hSz hS1 hS2 rfl (by decide) (.slice q mm0 dd) mm0 vs rfl ho ⟨v4.heap.size, 0, none⟩ 1 1 [.slice (some ⟨g, 0, none⟩) y.length cg] rfl rfl (one_cell rfl) (by intro u hu; simp at hu; subst hu; rfl) (by unfold maxLen; omega) (by omega) (by have := EXA.size_le; omega) ?_; intro v' w7 hown7 hgr7 hnil7 hat7; obtain ⟨gq, dq, rfl, hdq⟩ := own_form' hown7 (fun e => by have := (hnil7.1 e).2; omega); have KP7 := blk_tag (EXA.blk KP1.out) hgr7 htag (by decide); have cP7 := (blk1 KP7).1; have fP7 := (blk1 KP7).2)
            refine hK.out _ _ trivial (fun hHzn10 => ?_)
            clear hK K9
            try simp only [Act.put, List.setIfInBounds_toArray]
            refine wpAnyH_ready (rs := [5]) (by kernel_rfl) (by simp) ?_
            refine AllReadyH.cons rfl (fun K9 hK => ?_) AllReadyH.nil
            go_simp
            refine hK.out _ _ trivial (fun hHzn11 => ?_)
            clear hK K9
            try simp only [Act.put]
            refine wpAnyH_done (by kernel_rfl) ?_ _
            have hxa := EXA.size_le; have hx17 := hgr7.size; have hsx := HSX.out
            have MOV : ∀ {k : Nat} {cs : Array Value} {T : TypeId}, T ≠ 22 → k ≠ w1.heap.size → X1.heap[k]? = some (.cells cs T (0, 0)) → (w7.setCell ⟨w1.heap.size, 0, none⟩ (.slice (some ⟨gq, 0, none⟩) (mm0 + 1) dq)).heap[k]? = some (.cells cs T (0, 0)) := fun hT hk h => blk_off (blk_tag (EXA.blk h) hgr7 htag (fun e => hT e.symm)) hk _
            have GQ : gq ∈ own1 ∨ X1.heap.size ≤ gq := by
              rcases hat7 with h | h
              · exact .inl (hob5 gq h.symm)
              · simp only [Value.ownBlock, Option.some.injEq] at h; exact .inr (by rw [h]; exact hxa)
            have hgl := (hown7.lt gq rfl).2
            have hg4 : X1.heap.size ≤ g := hg0
            have hgs : g < w7.heap.size := by have h1 := hgr7.size; simp only [World.size_alloc] at h1; omega
            have K0' := Lib.hid (MOV (by decide) (by omega) K0.out); have K1' := Lib.hid (MOV (by decide) (by omega) K1.out); have K2' := Lib.hid (MOV (by decide) (by omega) K2.out); have KV' := Lib.hid (MOV (by decide) (by omega) KV.out)
            have KP' := Lib.hid (blk1_set (b := .slice (some ⟨gq, 0, none⟩) (mm0 + 1) dq) KP7)
            have OWN' : Hid (∀ b ∈ own1 ++ g :: [gq], ga ≤ b ∧ b ≠ ga ∧ b ≠ ga + 1 ∧ b ≠ ga + 1 + 1 ∧ b ≠ w1.heap.size ∧ b ≠ w1.heap.size + 1) := Lib.hid (fun b hb => by
              rcases List.mem_append.1 hb with h | h
              · exact OWN1.out b h
              · simp only [List.mem_cons, List.not_mem_nil, or_false] at h
                rcases h with rfl | rfl
                · omega
                · rcases GQ with h | h
                  · exact OWN1.out b h
                  · omega)
            have PTD' : Hid (PtsD (own1 ++ g :: [gq]) ga (w7.setCell ⟨w1.heap.size, 0, none⟩ (.slice (some ⟨gq, 0, none⟩) (mm0 + 1) dq)) (.slice (some ⟨gq, 0, none⟩) (mm0 + 1) dq) ((pre0 ++ [y]).filter (fun x => decide (x.length = y.length)))) := Lib.hid (by
              have h1 := PtsD.push (X0 := X1) FM.out (by omega) (fun b hb => by rw [hsx]; exact HBB.out b hb) he ((hvg.weak (B' := ga) (by show ga ≤ X1.heap.size; omega)).ext EA) hg4 hown7 hgr7 htag
              rw [List.filter_append]
              simpa [Value.ownBlock] using h1.lv ((lv_set w7 w1.heap.size 0 (.slice (some ⟨gq, 0, none⟩) (mm0 + 1) dq)).mono (fun b _ h h' => (OWN'.out b h').2.2.2.2.1 h)))
            have GRW' : Hid (Grew (ga :: (ga + 1) :: (ga + 1 + 1) :: w1.heap.size :: (w1.heap.size + 1) :: own1) (ga :: (ga + 1) :: (ga + 1 + 1) :: w1.heap.size :: (w1.heap.size + 1) :: (own1 ++ g :: [gq])) X (w7.setCell ⟨w1.heap.size, 0, none⟩ (.slice (some ⟨gq, 0, none⟩) (mm0 + 1) dq))) := Lib.hid ⟨(((HLX.out.trans (EXA.lv (D := fun _ => False)) (E := fun k => k ∈ ga :: (ga + 1) :: (ga + 1 + 1) :: w1.heap.size :: (w1.heap.size + 1) :: own1) (fun b _ h => by simp [h]) (fun _ _ h => h.elim)).trans (Lv.grown (D := fun k => k ∈ own1) hgr7 (fun r e _ => hob5 r e)) (fun _ _ h => h) (fun b _ h => by simp [h])).trans (lv_set w7 w1.heap.size 0 _) (fun _ _ h => h) (fun b _ h => by simp [h])), fun b hb => by
              simp only [List.mem_cons, List.mem_append, List.not_mem_nil, or_false] at hb
              simp only [World.size_setCell, List.mem_cons]
              rcases hb with hb | hb | hb | hb | hb | hb | hb | hb
              · omega
              · omega
              · omega
              · omega
              · omega
              · exact ⟨by simp [hb], by have := HBB.out b hb; omega⟩
              · omega
              · subst hb
                rcases GQ with h | h
                · exact ⟨by simp [h], hgl⟩
                · exact ⟨by omega, hgl⟩⟩
            have KVL' : Hid ((w7.setCell ⟨w1.heap.size, 0, none⟩ (.slice (some ⟨gq, 0, none⟩) (mm0 + 1) dq)).heap[w1.heap.size + 1]? = some (.cells #[.int .i64 ((pre0 ++ [y]).length : Nat)] 3 (0, 0))) := Lib.hid (by rw [LEN.out]; exact KV'.out)
            generalize hY : w7.setCell ⟨w1.heap.size, 0, none⟩ (.slice (some ⟨gq, 0, none⟩) (mm0 + 1) dq) = Y at *
            clear hY MOV GQ hgl hg4 hgs hxa hx17 KP7 cP7 fP7 hown7 hgr7 hnil7 hat7 ho hob5 he hvl htag EA EXA EX KP4 cP4 cP5 hvg hg0 hg1 hE4 K0 K1 K2 KV KP1
            have cV := (blk1 KV'.out).1; have cP := (blk1 KP'.out).1; have f1 := (blk1 K1'.out).2; have f2 := (blk1 K2'.out).2; have cE1 := (blk1 K1'.out).1; have cE2 := (blk1 K2'.out).1
            have NPX : (1200 < (pre0 ++ [y]).length ∨ 120 < ((pre0 ++ [y]).filter (fun x => decide (x.length = y.length))).length) → Grew (ga :: (ga + 1) :: (ga + 1 + 1) :: w1.heap.size :: (w1.heap.size + 1) :: own1) (ga :: (ga + 1) :: (ga + 1 + 1) :: w1.heap.size :: (w1.heap.size + 1) :: (own1 ++ g :: [gq])) X ((Y.setCell ⟨ga + 1, 0, none⟩ (.slice none 0 0)).setCell ⟨ga + 1 + 1, 0, none⟩ (.bool false)) ∧ NpX (ga + 1) (ga + 1 + 1) y.length .ret (pre0 ++ [y]) (ga :: (ga + 1) :: (ga + 1 + 1) :: w1.heap.size :: (w1.heap.size + 1) :: (own1 ++ g :: [gq])) ((Y.setCell ⟨ga + 1, 0, none⟩ (.slice none 0 0)).setCell ⟨ga + 1 + 1, 0, none⟩ (.bool false)) := fun h =>
              ⟨grew_sets GRW'.out (by simp) (by simp), rfl, by simp, by simp, blk_off (blk1_set K1'.out) (by omega) _, blk1_set (blk_off K2'.out (by omega) _), h⟩
            have NPI : (pre0 ++ [y]).length ≤ 1200 → ((pre0 ++ [y]).filter (fun x => decide (x.length = y.length))).length ≤ 120 → NpI ga (ga + 1) (ga + 1 + 1) w1.heap.size (w1.heap.size + 1) ga y.length c p (pre0 ++ [y]) (ga :: (ga + 1) :: (ga + 1 + 1) :: w1.heap.size :: (w1.heap.size + 1) :: (own1 ++ g :: [gq])) Y := fun g1 g2 =>
              ⟨own1 ++ g :: [gq], _, rfl, OWN'.out, K0'.out, K1'.out, K2'.out, KVL'.out, g1, g2, KP'.out, PTD'.out⟩
            by_cases h1 : 1200 < a + 1
            · have d1 : decide ((1200 : Int) < (a : Int) + 1) = true := by simp; omega
              have Z1 := Lib.hid (NPX (.inl (by rw [LEN.out]; exact h1)))
              clear NPX NPI
              gi_wp2
              exact ⟨_, Z1.out.1, Z1.out.2⟩
            · have d1 : decide ((1200 : Int) < (a : Int) + 1) = false := by simp; omega
              by_cases h2 : 120 < mm0 + 1
              · have d2 : decide ((120 : Int) < (mm0 : Int) + 1) = true := by simp; omega
                have Z1 := Lib.hid (NPX (.inr (by rw [FIL.out]; exact h2)))
                clear NPX NPI
                gi_wp2
                exact ⟨_, Z1.out.1, Z1.out.2⟩
              · have d2 : decide ((120 : Int) < (mm0 : Int) + 1) = false := by simp; omega
                have Z1 := Lib.hid (NPI (by rw [LEN.out]; omega) (by rw [FIL.out]; omega))
                clear NPX NPI
                gi_wp2
                exact ⟨_, GRW'.out, Z1.out⟩
          · skip
            go_simp
            refine hK.out _ _ trivial (fun hHzn12 => ?_)
            clear hK K9
            try simp only [Act.put, List.setIfInBounds_toArray, List.set_cons_zero, List.set_cons_succ]
            refine wpAnyH_ready (rs := [0]) (by kernel_rfl) (by simp) ?_
            refine AllReadyH.cons rfl (fun K9 hK => ?_) AllReadyH.nil
            go_simp
            refine hK.out _ _ trivial (fun hHzn13 => ?_)
            clear hK K9
            try simp only [Act.put, List.setIfInBounds_toArray, List.set_cons_zero, List.set_cons_succ]
            refine wpAnyH_ready (rs := [4]) (by kernel_rfl) (by simp) ?_
            refine AllReadyH.cons rfl (fun K9 hK => ?_) AllReadyH.nil
            (have EA : Ext v4 (v4.alloc (.cells #[.slice (some ⟨g, 0, none⟩) y.length cg] 22)) := (Ext.refl v4).alloc _; have EXA := EX.trans EA; obtain ⟨vs, ho, hob5, he⟩ := PD1.out.lv (EXA.lv); rw [FM.out] at ho; have hvl := ho.1; have htag := own_tag ho; refine step_append_at _ rfl (.tmp 21) (.tmp 24) 44 rfl ga 22 iS (.slice none 0 0) 1 24 Try.underlying44 hSi hSz hS1 hS2 rfl (by decide) (.slice q mm0 dd) mm0 vs rfl ho ⟨v4.heap.size, 0, none⟩ 1 1 [.slice (some ⟨g, 0, none⟩) y.length cg] rfl rfl (one_cell rfl) (by intro u hu; simp at hu; subst hu; rfl) (by unfold maxLen; omega) (by omega) (by have := EXA.size_le; omega) ?_; intro v' w7 hown7 hgr7 hnil7 hat7; obtain ⟨gq, dq, rfl, hdq⟩ := own_form' hown7 (fun e => by have := (hnil7.1 e).2; omega); have KP7 := blk_tag (EXA.blk KP1.out) hgr7 htag (by decide); have cP7 := (blk1 KP7).1; have fP7 := (blk1 KP7).2)
            refine hK.out _ _ trivial (fun hHzn14 => ?_)
            clear hK K9
            try simp only [Act.put, List.setIfInBounds_toArray]
            refine wpAnyH_ready (rs := [5]) (by kernel_rfl) (by simp) ?_
            refine AllReadyH.cons rfl (fun K9 hK => ?_) AllReadyH.nil
            go_simp
            refine hK.out _ _ trivial (fun hHzn15 => ?_)
            clear hK K9
            try simp only [Act.put]
            refine wpAnyH_done (by kernel_rfl) ?_ _
            have hxa := EXA.size_le; have hx17 := hgr7.size; have hsx := HSX.out
            have MOV : ∀ {k : Nat} {cs : Array Value} {T : TypeId}, T ≠ 22 → k ≠ w1.heap.size → X1.heap[k]? = some (.cells cs T (0, 0)) → (w7.setCell ⟨w1.heap.size, 0, none⟩ (.slice (some ⟨gq, 0, none⟩) (mm0 + 1) dq)).heap[k]? = some (.cells cs T (0, 0)) := fun hT hk h => blk_off (blk_tag (EXA.blk h) hgr7 htag (fun e => hT e.symm)) hk _
            have GQ : gq ∈ own1 ∨ X1.heap.size ≤ gq := by
              rcases hat7 with h | h
              · exact .inl (hob5 gq h.symm)
              · simp only [Value.ownBlock, Option.some.injEq] at h; exact .inr (by rw [h]; exact hxa)
            have hgl := (hown7.lt gq rfl).2
            have hg4 : X1.heap.size ≤ g := hg0
            have hgs : g < w7.heap.size := by have h1 := hgr7.size; simp only [World.size_alloc] at h1; omega
            have K0' := Lib.hid (MOV (by decide) (by omega) K0.out); have K1' := Lib.hid (MOV (by decide) (by omega) K1.out); have K2' := Lib.hid (MOV (by decide) (by omega) K2.out); have KV' := Lib.hid (MOV (by decide) (by omega) KV.out)
            have KP' := Lib.hid (blk1_set (b := .slice (some ⟨gq, 0, none⟩) (mm0 + 1) dq) KP7)
            have OWN' : Hid (∀ b ∈ own1 ++ g :: [gq], ga ≤ b ∧ b ≠ ga ∧ b ≠ ga + 1 ∧ b ≠ ga + 1 + 1 ∧ b ≠ w1.heap.size ∧ b ≠ w1.heap.size + 1) := Lib.hid (fun b hb => by
              rcases List.mem_append.1 hb with h | h
              · exact OWN1.out b h
              · simp only [List.mem_cons, List.not_mem_nil, or_false] at h
                rcases h with rfl | rfl
                · omega
                · rcases GQ with h | h
                  · exact OWN1.out b h
                  · omega)
            have PTD' : Hid (PtsD (own1 ++ g :: [gq]) ga (w7.setCell ⟨w1.heap.size, 0, none⟩ (.slice (some ⟨gq, 0, none⟩) (mm0 + 1) dq)) (.slice (some ⟨gq, 0, none⟩) (mm0 + 1) dq) ((pre0 ++ [y]).filter (fun x => decide (x.length = y.length)))) := Lib.hid (by
              have h1 := PtsD.push (X0 := X1) FM.out (by omega) (fun b hb => by rw [hsx]; exact HBB.out b hb) he ((hvg.weak (B' := ga) (by show ga ≤ X1.heap.size; omega)).ext EA) hg4 hown7 hgr7 htag
              rw [List.filter_append]
              simpa [Value.ownBlock] using h1.lv ((lv_set w7 w1.heap.size 0 (.slice (some ⟨gq, 0, none⟩) (mm0 + 1) dq)).mono (fun b _ h h' => (OWN'.out b h').2.2.2.2.1 h)))
            have GRW' : Hid (Grew (ga :: (ga + 1) :: (ga + 1 + 1) :: w1.heap.size :: (w1.heap.size + 1) :: own1) (ga :: (ga + 1) :: (ga + 1 + 1) :: w1.heap.size :: (w1.heap.size + 1) :: (own1 ++ g :: [gq])) X (w7.setCell ⟨w1.heap.size, 0, none⟩ (.slice (some ⟨gq, 0, none⟩) (mm0 + 1) dq))) := Lib.hid ⟨(((HLX.out.trans (EXA.lv (D := fun _ => False)) (E := fun k => k ∈ ga :: (ga + 1) :: (ga + 1 + 1) :: w1.heap.size :: (w1.heap.size + 1) :: own1) (fun b _ h => by simp [h]) (fun _ _ h => h.elim)).trans (Lv.grown (D := fun k => k ∈ own1) hgr7 (fun r e _ => hob5 r e)) (fun _ _ h => h) (fun b _ h => by simp [h])).trans (lv_set w7 w1.heap.size 0 _) (fun _ _ h => h) (fun b _ h => by simp [h])), fun b hb => by
              simp only [List.mem_cons, List.mem_append, List.not_mem_nil, or_false] at hb
              simp only [World.size_setCell, List.mem_cons]
              rcases hb with hb | hb | hb | hb | hb | hb | hb | hb
              · omega
              · omega
              · omega
              · omega
              · omega
              · exact ⟨by simp [hb], by have := HBB.out b hb; omega⟩
              · omega
              · subst hb
                rcases GQ with h | h
                · exact ⟨by simp [h], hgl⟩
                · exact ⟨by omega, hgl⟩⟩
            have KVL' : Hid ((w7.setCell ⟨w1.heap.size, 0, none⟩ (.slice (some ⟨gq, 0, none⟩) (mm0 + 1) dq)).heap[w1.heap.size + 1]? = some (.cells #[.int .i64 ((pre0 ++ [y]).length : Nat)] 3 (0, 0))) := Lib.hid (by rw [LEN.out]; exact KV'.out)
            generalize hY : w7.setCell ⟨w1.heap.size, 0, none⟩ (.slice (some ⟨gq, 0, none⟩) (mm0 + 1) dq) = Y at *
            clear hY MOV GQ hgl hg4 hgs hxa hx17 KP7 cP7 fP7 hown7 hgr7 hnil7 hat7 ho hob5 he hvl htag EA EXA EX KP4 cP4 cP5 hvg hg0 hg1 hE4 K0 K1 K2 KV KP1
            have cV := (blk1 KV'.out).1; have cP := (blk1 KP'.out).1; have f1 := (blk1 K1'.out).2; have f2 := (blk1 K2'.out).2; have cE1 := (blk1 K1'.out).1; have cE2 := (blk1 K2'.out).1
            have NPX : (1200 < (pre0 ++ [y]).length ∨ 120 < ((pre0 ++ [y]).filter (fun x => decide (x.length = y.length))).length) → Grew (ga :: (ga + 1) :: (ga + 1 + 1) :: w1.heap.size :: (w1.heap.size + 1) :: own1) (ga :: (ga + 1) :: (ga + 1 + 1) :: w1.heap.size :: (w1.heap.size + 1) :: (own1 ++ g :: [gq])) X ((Y.setCell ⟨ga + 1, 0, none⟩ (.slice none 0 0)).setCell ⟨ga + 1 + 1, 0, none⟩ (.bool false)) ∧ NpX (ga + 1) (ga + 1 + 1) y.length .ret (pre0 ++ [y]) (ga :: (ga + 1) :: (ga + 1 + 1) :: w1.heap.size :: (w1.heap.size + 1) :: (own1 ++ g :: [gq])) ((Y.setCell ⟨ga + 1, 0, none⟩ (.slice none 0 0)).setCell ⟨ga + 1 + 1, 0, none⟩ (.bool false)) := fun h =>
              ⟨grew_sets GRW'.out (by simp) (by simp), rfl, by simp, by simp, blk_off (blk1_set K1'.out) (by omega) _, blk1_set (blk_off K2'.out (by omega) _), h⟩
            have NPI : (pre0 ++ [y]).length ≤ 1200 → ((pre0 ++ [y]).filter (fun x => decide (x.length = y.length))).length ≤ 120 → NpI ga (ga + 1) (ga + 1 + 1) w1.heap.size (w1.heap.size + 1) ga y.length c p (pre0 ++ [y]) (ga :: (ga + 1) :: (ga + 1 + 1) :: w1.heap.size :: (w1.heap.size + 1) :: (own1 ++ g :: [gq])) Y := fun g1 g2 =>
              ⟨own1 ++ g :: [gq], _, rfl, OWN'.out, K0'.out, K1'.out, K2'.out, KVL'.out, g1, g2, KP'.out, PTD'.out⟩
            by_cases h1 : 1200 < a + 1
            · have d1 : decide ((1200 : Int) < (a : Int) + 1) = true := by simp; omega
              have Z1 := Lib.hid (NPX (.inl (by rw [LEN.out]; exact h1)))
              clear NPX NPI
              gi_wp2
              exact ⟨_, Z1.out.1, Z1.out.2⟩
            · have d1 : decide ((1200 : Int) < (a : Int) + 1) = false := by simp; omega
              by_cases h2 : 120 < mm0 + 1
              · have d2 : decide ((120 : Int) < (mm0 : Int) + 1) = true := by simp; omega
                have Z1 := Lib.hid (NPX (.inr (by rw [FIL.out]; exact h2)))
                clear NPX NPI
                gi_wp2
                exact ⟨_, Z1.out.1, Z1.out.2⟩
              · have d2 : decide ((120 : Int) < (mm0 : Int) + 1) = false := by simp; omega
                have Z1 := Lib.hid (NPI (by rw [LEN.out]; omega) (by rw [FIL.out]; omega))
                clear NPX NPI
                gi_wp2
                exact ⟨_, GRW'.out, Z1.out⟩
      · have hbe : ((y.length : Int) == (n : Int)) = false := by simp; omega
        have FIL : Hid (((pre0 ++ [y]).filter (fun x => decide (x.length = n))).length = mm0) := Lib.hid (by rw [List.filter_append, List.length_append, FM.out]; simp [hyn])
        have KP := KP1
        have KVL : Hid (X1.heap[w1.heap.size + 1]? = some (.cells #[.int .i64 ((pre0 ++ [y]).length : Nat)] 3 (0, 0))) := Lib.hid (by rw [LEN.out]; exact KV.out)
        have PTD : Hid (PtsD own1 ga X1 (.slice q mm0 dd) ((pre0 ++ [y]).filter (fun x => decide (x.length = n)))) := Lib.hid (by rw [List.filter_append]; simpa [hyn] using PD1.out)
        have OWN := OWN1
        have GRW : Hid (Grew (ga :: (ga + 1) :: (ga + 1 + 1) :: w1.heap.size :: (w1.heap.size + 1) :: own1) (ga :: (ga + 1) :: (ga + 1 + 1) :: w1.heap.size :: (w1.heap.size + 1) :: own1) X X1) := Lib.hid ⟨HLX.out.mono (fun b _ h => by simp [h]), fun b hb => ⟨.inl hb, by
          rw [HSX.out]
          simp only [List.mem_cons] at hb
          rcases hb with hb | hb | hb | hb | hb | hb
          · omega
          · omega
          · omega
          · omega
          · omega
          · exact HBB.out b hb⟩⟩
        have hmm : ∃ mm, mm0 = mm := ⟨_, rfl⟩
        obtain ⟨mm, rfl⟩ := hmm
        have NPX : (1200 < (pre0 ++ [y]).length ∨ 120 < ((pre0 ++ [y]).filter (fun x => decide (x.length = n))).length) → Grew (ga :: (ga + 1) :: (ga + 1 + 1) :: w1.heap.size :: (w1.heap.size + 1) :: own1) (ga :: (ga + 1) :: (ga + 1 + 1) :: w1.heap.size :: (w1.heap.size + 1) :: own1) X ((X1.setCell ⟨ga + 1, 0, none⟩ (.slice none 0 0)).setCell ⟨ga + 1 + 1, 0, none⟩ (.bool false)) ∧ NpX (ga + 1) (ga + 1 + 1) n .ret (pre0 ++ [y]) (ga :: (ga + 1) :: (ga + 1 + 1) :: w1.heap.size :: (w1.heap.size + 1) :: own1) ((X1.setCell ⟨ga + 1, 0, none⟩ (.slice none 0 0)).setCell ⟨ga + 1 + 1, 0, none⟩ (.bool false)) := fun h =>
          ⟨grew_sets GRW.out (by simp) (by simp), rfl, by simp, by simp, blk_off (blk1_set K1.out) (by omega) _, blk1_set (blk_off K2.out (by omega) _), h⟩
        have NPI : (pre0 ++ [y]).length ≤ 1200 → ((pre0 ++ [y]).filter (fun x => decide (x.length = n))).length ≤ 120 → NpI ga (ga + 1) (ga + 1 + 1) w1.heap.size (w1.heap.size + 1) ga n c p (pre0 ++ [y]) (ga :: (ga + 1) :: (ga + 1 + 1) :: w1.heap.size :: (w1.heap.size + 1) :: own1) X1 := fun g1 g2 =>
          ⟨own1, _, rfl, OWN.out, K0.out, K1.out, K2.out, KVL.out, g1, g2, KP.out, PTD.out⟩
        have cP1 := (blk1 KP1.out).1; have cV1 := (blk1 KV.out).1
        have f1 := (blk1 K1.out).2; have f2 := (blk1 K2.out).2; have cE1 := (blk1 K1.out).1; have cE2 := (blk1 K2.out).1
        by_cases h1 : 1200 < a + 1
        · have d1 : decide ((1200 : Int) < (a : Int) + 1) = true := by simp; omega
          have Z1 := Lib.hid (NPX (.inl (by rw [LEN.out]; exact h1)))
          gi_wp2
          exact ⟨_, Z1.out.1, Z1.out.2⟩
        · have d1 : decide ((1200 : Int) < (a : Int) + 1) = false := by simp; omega
          have d2 : decide ((120 : Int) < (mm0 : Int)) = false := by simp; omega
          have Z1 := Lib.hid (NPI (by rw [LEN.out]; omega) (by rw [FIL.out]; omega))
          clear NPX NPI
          gi_wp2
          exact ⟨_, GRW.out, Z1.out⟩
    case done =>
      rintro E ow X hE6 hEn ⟨own1, v, rfl, hown1, k0, k1, k2, kV, ha, hf, kP, hpd⟩ hob hv6 hz hdf
      have hs3 := HS3.out
      have hE7 : ga < E := by omega
      have hnE : ∀ b ∈ ga :: (ga + 1) :: (ga + 1 + 1) :: w1.heap.size :: (w1.heap.size + 1) :: own1, b ≠ E := fun b hb e => hEn (e ▸ hb)
      have HPB : Hid (nptsB ls = true) := Lib.hid (by
        rw [nptsB_pre HNB.out, HN.out, ← pre_leaves ls n [] (by simp [HN.out]), HN.out]
        simp only [Bool.and_eq_true, decide_eq_true_eq]
        exact ⟨ha, hf⟩)
      have HPL : Hid (nptsL ls = (pre ls n []).filter (fun x => decide (x.length = n))) := Lib.hid (by
        rw [nptsL_leaves HPB.out, HN.out, ← pre_leaves ls n [] (by simp [HN.out]), HN.out])
      rw [← HPL.out] at hpd
      clear hf
      obtain ⟨qv, dv, rfl⟩ := hpd.form
      generalize hnv : (nptsL ls).length = nv at *
      obtain ⟨cP, -⟩ := blk1 kP
      obtain ⟨c1, f1⟩ := blk1 k1
      obtain ⟨c2, f2⟩ := blk1 k2
      have KE : Hid (((X.setCell ⟨ga + 1, 0, none⟩ (.slice qv nv dv)).setCell ⟨ga + 1 + 1, 0, none⟩ (.bool true)).heap[E]? = some (.deferred (some []))) := Lib.hid (blk_off (blk_off hdf (Ne.symm (hnE (ga + 1) (by simp))) _) (Ne.symm (hnE (ga + 1 + 1) (by simp))) _)
      have KB1 := Lib.hid (blk_off (g' := ga + 1 + 1) (o' := 0) (blk1_set (b := .slice qv nv dv) k1) (by omega) (.bool true))
      have KB2 := Lib.hid (blk1_set (b := .bool true) (blk_off (g' := ga + 1) (o' := 0) k2 (by omega) (.slice qv nv dv)))
      have hl2 : Lv (fun k => k = ga + 1 ∨ k = ga + 1 + 1) X ((X.setCell ⟨ga + 1, 0, none⟩ (.slice qv nv dv)).setCell ⟨ga + 1 + 1, 0, none⟩ (.bool true)) := (lv_set X (ga + 1) 0 (.slice qv nv dv)).trans (lv_set _ (ga + 1 + 1) 0 (.bool true)) (fun _ _ h => .inl h) (fun _ _ h => .inr h)
      have HPD := Lib.hid (hpd.lv (hl2.mono (fun b _ h h' => by have := hown1 b h'; omega)))
      have HEX := Lib.hid (hl2.ext0 (hv6.ext0 E6.out (fun b hb h => by simp at h; omega)) (fun b hb h => by omega))
      have HOB : Hid (∀ b ∈ own1, ga ≤ b ∧ b < X.heap.size) := Lib.hid (fun b hb => ⟨(hown1 b hb).1, (hob b (by simp [hb])).2⟩)
      have HSZ := Lib.hid hl2.size
      have HN1 : Hid (ga + 1 ≠ E) := Lib.hid (hnE _ (by simp)); have HN2 : Hid (ga + 1 + 1 ≠ E) := Lib.hid (hnE _ (by simp))
      have HEO : Hid (E ∉ own1) := Lib.hid (fun h => hEn (by simp [h]))
      clear hs3 hpd hl2 hown1 k0 k1 k2 kV ha kP hob hv6 hz hdf hEn hnE
      gi_wp2
      refine leaves_marks2 [E] _ (fun E' h => by simp at h; subst h; exact KE.out) (by simp) (fun W' hW' => ?_)
      obtain ⟨r1, -⟩ := blk1 (hW'.heap KB1.out (by simpa using HN1.out))
      obtain ⟨r2, -⟩ := blk1 (hW'.heap KB2.out (by simpa using HN2.out))
      refine ⟨.tuple #[.slice qv nv dv, .bool true], by simp [results, Try.results20, go_sem, r1, r2], ⟨.slice qv nv dv, own1, by rw [HPB.out], HPD.out.lv (hW'.mono (fun b _ h h' => by simp at h; subst h; exact HEO.out h')), fun b hb => ⟨(HOB.out b hb).1, by have h1 := (HOB.out b hb).2; have h2 := HSZ.out; have h3 := hW'.size; omega⟩⟩, hW'.ext0 HEX.out (fun b hb h => by simp at h; omega)⟩
    case stop =>
      rintro E cd q ow X hE6 hEn hq ⟨rfl, r1, r2, b1, b2, hlim⟩ hob hv6 hz hdf
      have hs3 := HS3.out
      have hE7 : ga < E := by omega
      have HPB : Hid (nptsB ls = false) := Lib.hid (by
        have h1 := hq.length_le
        have h2 := (hq.filter (fun x => decide (x.length = n))).length_le
        rw [nptsB_pre HNB.out, HN.out, ← pre_leaves ls n [] (by simp [HN.out]), HN.out]
        simp only [Bool.and_eq_false_iff, decide_eq_false_iff_not]
        omega)
      have HN1 : Hid (ga + 1 ≠ E) := Lib.hid (fun e => hEn (e ▸ r1)); have HN2 : Hid (ga + 1 + 1 ≠ E) := Lib.hid (fun e => hEn (e ▸ r2))
      have KE := Lib.hid hdf; have KB1 := Lib.hid b1; have KB2 := Lib.hid b2
      have HEX := Lib.hid (hv6.ext0 E6.out (fun b hb h => by simp at h; omega))
      clear hs3 b1 b2 hlim hob hv6 hz hdf hq r1 r2 hEn
      gi_wp2
      refine leaves_marks2 [E] _ (fun E' h => by simp at h; subst h; exact KE.out) (by simp) (fun W' hW' => ?_)
      obtain ⟨r1, -⟩ := blk1 (hW'.heap KB1.out (by simpa using HN1.out))
      obtain ⟨r2, -⟩ := blk1 (hW'.heap KB2.out (by simpa using HN2.out))
      refine ⟨.tuple #[.slice none 0 0, .bool false], by simp [results, Try.results20, go_sem, r1, r2], ⟨.slice none 0 0, [], by rw [HPB.out], ?_, by simp⟩, hW'.ext0 HEX.out (fun b hb h => by simp at h; omega)⟩
      rw [show nptsL ls = [] by simp [nptsL, HPB.out]]; exact PtsD.nil _ _ _
end Go.Proofs.Ytccibfldadflkaa
