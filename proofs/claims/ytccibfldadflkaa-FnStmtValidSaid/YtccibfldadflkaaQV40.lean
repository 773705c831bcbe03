/- The texts X2 X3, joined. No statement is proved here. -/
import Derived.Test.YtccibfldadflkaaQV37
import Derived.Test.YtccibfldadflkaaQV43
import Derived.Test.YtccibfldadflkaaQV35
/- Draws of statements: an expression (by x2.py). No statement is proved here. -/
namespace Go.Proofs.Ytccibfldadflkaa
open Go.RowKit

theorem affs_lvB {B : Nat} {D : Nat → Prop} {w w' : World} {v : Value} {xs : List Aff} (h : AffsOwn B w v xs) (hv : Lv D w w') (hD : ∀ b, B ≤ b → ¬ D b) : AffsOwn B w' v xs :=
  PairsOwn.map' h (fun _ h => row_lv h hv (fun b hb => hD b (h.lt b hb).1)) (fun h => ⟨row_lv h.1 hv (fun b hb => hD b (World.ownsRow.lt h.1 b hb).1), h.2⟩)
theorem ExO.lvB {B : Nat} {D : Nat → Prop} {w w' : World} {cs : List Value} {e : Ex} (h : ExO B w cs e) (hv : Lv D w w') (hD : ∀ b, B ≤ b → ¬ D b) : ExO B w' cs e :=
  h.map (fun h => row_lv h hv (fun b hb => hD b (World.ownsRow.lt h b hb).1)) (fun h => affs_lvB h hv hD) (fun h => row_lv h hv (fun b hb => hD b (h.lt b hb).1))
theorem ExsO.nil (B : Nat) (w : World) : ExsO B w (.slice none 0 0) [] := ⟨none, 0, fun _ => [], [], rfl, World.ownsRow_nil _ _ _ _, fun i e h => by simp at h, fun i e h => by simp at h⟩
theorem IntsOwn.nil (B : Nat) (w : World) : IntsOwn B w (.slice none 0 0) [] := World.ownsRow_nil _ _ _ _
theorem Dr.lvG {w w' : World} {g E : Nat} (h : Dr w g w') (hg : g ≤ E) : Lv (fun b => b ≤ E) w w' := Lv.grown h (fun r e _ => by have := Option.some.inj e; omega)
theorem own_shapeX {B n size : Nat} {e : TypeId} {w : World} {v : Value} {xs : List Value} (h : w.ownsRow B e size v n xs) (h0 : 0 < n) : ∃ q c, v = .slice q n c := by
  rcases h.2 with ⟨rfl, hn⟩ | ⟨g, cap, cur, rfl, _⟩
  · omega
  · exact ⟨_, _, rfl⟩
theorem seven_cells {L : Nat} {w : World} {u0 u1 u2 u3 u4 u5 u6 : Value} {t : TypeId} (hL : L = w.heap.size) : ∀ j u, [u0, u1, u2, u3, u4, u5, u6][j]? = some u → (w.alloc (.cells #[u0, u1, u2, u3, u4, u5, u6] t)).cell? ((⟨L, 0, none⟩ : Addr).add j) = some u := by
  subst hL
  intro q u hq
  match q, hq with
  | 0, hq => simp at hq; subst hq; simp [Addr.add]
  | 1, hq => simp at hq; subst hq; simp [Addr.add, go_sem]
  | 2, hq => simp at hq; subst hq; simp [Addr.add, go_sem]
  | 3, hq => simp at hq; subst hq; simp [Addr.add, go_sem]
  | 4, hq => simp at hq; subst hq; simp [Addr.add, go_sem]
  | 5, hq => simp at hq; subst hq; simp [Addr.add, go_sem]
  | 6, hq => simp at hq; subst hq; simp [Addr.add, go_sem]
theorem blk7_set6 {W : World} {g : Nat} {a0 a1 a2 a3 a4 a5 a6 u : Value} {t : TypeId} (h : W.heap[g]? = some (.cells #[a0, a1, a2, a3, a4, a5, a6] t (0, 0))) : (W.setCell ⟨g, 6, none⟩ u).heap[g]? = some (.cells #[a0, a1, a2, a3, a4, a5, u] t (0, 0)) := by
  simpa using heap_setCell_same W g 6 _ t u h

/-- Expressions as they are drawn. -/
inductive GdE : Ex → Prop
  | mk (kind num k : Int) (xs : List Int) (arr : ByteArray) (subs : List Aff) (kids : List Ex) (hx : xs.length = 0 ∨ xs.length = 4) (hs : FourA 8 subs) (hl : kids.length ≤ 8) (hk : ∀ e ∈ kids, GdE e) : GdE (.mk kind num (xs, k) arr subs kids)
theorem FourA.nil8 (N : Nat) : FourA N [] := ⟨Nat.zero_le _, fun a h => by cases h⟩
theorem GdE.leaf {kind num k : Int} {xs : List Int} {arr : ByteArray} {subs : List Aff} (hx : xs.length = 0 ∨ xs.length = 4) (hs : FourA 8 subs) : GdE (.mk kind num (xs, k) arr subs []) := .mk _ _ _ _ _ _ _ hx hs (Nat.zero_le _) (fun e h => by cases h)
/-- A node that lies in a row under way: its own blocks are none of the row's. -/
def ElV (EB : Nat) (own : Option Nat) (w : World) (cs : List Value) (e : Ex) : Prop := ∃ wi Bi, EB + 1 ≤ Bi ∧ ExO Bi wi cs e ∧ Lv (fun b => b < Bi) wi w ∧ ∀ b, own = some b → b < Bi ∨ wi.heap.size ≤ b
theorem ElV.lv {EB : Nat} {own : Option Nat} {w w' : World} {cs : List Value} {e : Ex} (h : ElV EB own w cs e) (hv : Lv (fun b => b ≤ EB) w w') : ElV EB own w' cs e := by
  obtain ⟨wi, Bi, h1, h2, h3, h4⟩ := h
  exact ⟨wi, Bi, h1, h2, h3.trans hv (fun _ _ h => h) (fun b _ h => by omega), h4⟩
theorem ElV.app {EB : Nat} {own own' : Option Nat} {w w' : World} {cs : List Value} {e : Ex} (h : ElV EB own w cs e) (hg : w.grownBy w' own) (hn : own' = own ∨ own' = some w.heap.size) : ElV EB own' w' cs e := by
  obtain ⟨wi, Bi, h1, h2, h3, h4⟩ := h
  refine ⟨wi, Bi, h1, h2, h3.trans (Lv.grown (D := fun b => own = some b) hg (fun r e _ => e)) (fun _ _ h => h) (fun b hb e => ?_), fun b hb => ?_⟩
  · rcases h4 b e with h | h
    · exact h
    · omega
  · rcases hn with e | e
    · exact h4 b (e ▸ hb)
    · rw [e] at hb
      have := Option.some.inj hb
      have := h3.size
      exact .inr (by omega)
theorem ElV.new {EB Bi : Nat} {own : Option Nat} {w w' : World} {cs : List Value} {e : Ex} (h : ExO Bi w cs e) (hE : Ext w w') (hB : EB + 1 ≤ Bi) (hn : ∀ b, own = some b → b < Bi ∨ w.heap.size ≤ b) : ElV EB own w' cs e := ⟨w, Bi, hB, h, hE.lv, hn⟩
theorem ElV.out {EB : Nat} {own : Option Nat} {w : World} {cs : List Value} {e : Ex} (h : ElV EB own w cs e) : ExO (EB + 1) w cs e := by
  obtain ⟨wi, Bi, h1, h2, h3, h4⟩ := h
  exact (h2.lvB h3 (fun b hb h => by omega)).weak h1
def RowV (EB : Nat) (w : World) (q : Option Addr) (k c : Nat) (css : List (List Value)) (es : List Ex) : Prop :=
  css.length = k ∧ es.length = k ∧ w.ownsRow (EB + 1) 54 7 (.slice q k c) k css.flatten ∧ (∀ cs ∈ css, cs.length = 7) ∧ ∀ (i : Nat) (cs : List Value) (e : Ex), css[i]? = some cs → es[i]? = some e → ElV EB (Value.slice q k c).ownBlock w cs e ∧ GdE e
theorem RowV.nil (EB : Nat) (w : World) : RowV EB w none 0 0 [] [] := ⟨rfl, rfl, World.ownsRow_nil _ _ _ _, by simp, fun i cs e h => by simp at h⟩
theorem RowV.lv {EB : Nat} {w w' : World} {q : Option Addr} {k c : Nat} {css : List (List Value)} {es : List Ex} (h : RowV EB w q k c css es) (hv : Lv (fun b => b ≤ EB) w w') : RowV EB w' q k c css es := by
  obtain ⟨h1, h2, h3, h4, h5⟩ := h
  exact ⟨h1, h2, row_lv h3 hv (fun b hb => by have := (h3.lt b hb).1; omega), h4, fun i cs e hi he => ⟨(h5 i cs e hi he).1.lv hv, (h5 i cs e hi he).2⟩⟩
theorem RowV.push {EB : Nat} {w w' : World} {q q' : Option Addr} {k c c' : Nat} {css : List (List Value)} {es : List Ex} {cs : List Value} {e : Ex} (h : RowV EB w q k c css es) (ho' : w'.ownsRow (EB + 1) 54 7 (.slice q' (k + 1) c') (k + 1) (css.flatten ++ cs)) (hg : w.grownBy w' (Value.slice q k c).ownBlock)
    (hat : (Value.slice q' (k + 1) c').ownBlock = (Value.slice q k c).ownBlock ∨ (Value.slice q' (k + 1) c').ownBlock = some w.heap.size) (h7 : cs.length = 7) (hel : ElV EB (Value.slice q k c).ownBlock w cs e) (hgd : GdE e) : RowV EB w' q' (k + 1) c' (css ++ [cs]) (es ++ [e]) := by
  obtain ⟨h1, h2, h3, h4, h5⟩ := h
  refine ⟨by simp [h1], by simp [h2], by rw [List.flatten_append]; simpa using ho', fun x hx => ?_, fun i x y hi he => ?_⟩
  · rcases List.mem_append.1 hx with hx | hx
    · exact h4 x hx
    · simp at hx; rw [hx]; exact h7
  · rcases Nat.lt_or_ge i k with hlt | hge
    · rw [List.getElem?_append_left (by omega)] at hi he
      exact ⟨(h5 i x y hi he).1.app hg hat, (h5 i x y hi he).2⟩
    · have hl := (List.getElem?_eq_some_iff.1 hi).1
      simp at hl
      obtain rfl : i = k := by omega
      rw [List.getElem?_append_right (by omega)] at hi he
      simp [h1] at hi
      simp [h2] at he
      subst hi; subst he
      exact ⟨hel.app hg hat, hgd⟩
theorem flat7 : ∀ {css : List (List Value)} {i j : Nat} {cs : List Value} {v : Value}, (∀ cs ∈ css, cs.length = 7) → css[i]? = some cs → cs[j]? = some v → css.flatten[i * 7 + j]? = some v
  | [], i, j, cs, v, _, hi, _ => by simp at hi
  | a :: l, 0, j, cs, v, h, hi, hj => by
    simp at hi
    subst hi
    rw [List.flatten_cons, Nat.zero_mul, Nat.zero_add, List.getElem?_append_left (List.getElem?_eq_some_iff.1 hj).1]
    exact hj
  | a :: l, i + 1, j, cs, v, h, hi, hj => by
    have h7 := h a (by simp)
    rw [List.flatten_cons, List.getElem?_append_right (by omega), show (i + 1) * 7 + j - a.length = i * 7 + j by omega]
    exact flat7 (fun cs hcs => h cs (by simp [hcs])) (by simpa using hi) hj
theorem RowV.exs {EB : Nat} {w : World} {q : Option Addr} {k c : Nat} {css : List (List Value)} {es : List Ex} (h : RowV EB w q k c css es) : ExsO (EB + 1) w (.slice q k c) es ∧ ∀ e ∈ es, GdE e := by
  obtain ⟨h1, h2, h3, h4, h5⟩ := h
  have hg : ∀ (i : Nat) (e : Ex), es[i]? = some e → ∃ cs, css[i]? = some cs := fun i e he => get_some (by have := (List.getElem?_eq_some_iff.1 he).1; omega)
  refine ⟨⟨q, c, fun i => css.getD i [], css.flatten, by rw [h2], by rw [h2]; exact h3, fun i e he j v hj => ?_, fun i e he => ?_⟩, fun e he => ?_⟩
  · obtain ⟨cs, hcs⟩ := hg i e he
    simp only [List.getD_eq_getElem?_getD, hcs, Option.getD_some] at hj
    exact flat7 h4 hcs hj
  · obtain ⟨cs, hcs⟩ := hg i e he
    simp only [List.getD_eq_getElem?_getD, hcs, Option.getD_some]
    exact (h5 i cs e hcs he).1.out
  · obtain ⟨i, hi⟩ := List.mem_iff_getElem?.1 he
    obtain ⟨cs, hcs⟩ := hg i e hi
    exact (h5 i cs e hcs hi).2
theorem EA0 {EB : Nat} {x : Value} (W : World) (o : Obj) (h : W.cell? ⟨EB, 6, none⟩ = some x) : (W.alloc o).cell? ⟨EB, 6, none⟩ = some x := ((Ext.refl W).alloc o).keep h

def cstV : Nat → Nat | 0 => 14 | n + 1 => 2 + 2 * cstV n
theorem cstV_ge : ∀ L, 14 ≤ cstV L
  | 0 => Nat.le_refl _
  | L + 1 => by have := cstV_ge L; simp only [cstV]; omega
/-- What l3Value does at a number of levels. -/
def VlOf (L : Nat) : Prop := ∀ (W : World) (g K d : Nat) (w : World), Rd W g K w → K + cstV L ≤ 90000 → d ≤ 4 →
  Calls Try.prog 87 #[.pointer (some ⟨g, 0, none⟩), .int .i64 d, .int .i64 (L : Int)] w fun e w' => (∃ cs ex, e = .returned (.agg cs.toArray) ∧ ExO w.heap.size w' cs ex ∧ GdE ex) ∧ Rd W g (K + cstV L) w' ∧ Dr w g w'

set_option linter.unusedVariables false in
set_option linter.unusedSimpArgs false in
set_option maxRecDepth 100000 in
set_option maxHeartbeats 8000000 in
theorem l3Value_low (L : Nat) (hL : L < 2) : VlOf L := by
  intro W g K d w hr hK hd
  have hlg := hr.lt
  have hc := cstV_ge L
  obtain ⟨lv, hlv⟩ : ∃ x : Int, (L : Int) = x := ⟨_, rfl⟩
  rw [hlv]
  have hlt : lv < 2 := by omega
  have HR := Lib.hid hr
  clear hr hlv
  obtain ⟨wz, hwz⟩ : ∃ W, w.alloc (.cells #[.int .i64 0, .int .i64 0, .slice none 0 0, .int .i64 0, .string ⟨#[]⟩, .slice none 0 0, .slice none 0 0] 54) = W := ⟨_, rfl⟩
  have EZ : Ext w wz := by rw [← hwz]; exact (Ext.refl w).alloc _
  have RC : Hid (wz.heap[w.heap.size]? = some (.cells #[.int .i64 0, .int .i64 0, .slice none 0 0, .int .i64 0, .string ⟨#[]⟩, .slice none 0 0, .slice none 0 0] 54 (0, 0))) := Lib.hid (by rw [← hwz]; exact blk_at rfl)
  have HC := Lib.hid (HR.out.ext EZ); have DC := Lib.hid ((Dr.refl w g).ext EZ)
  have HWZ := Lib.hid hwz
  clear hwz EZ HR
  go_enter Try.func87, Try.ntmps87
  go_wp2_with (fail)
  try rw [HWZ.out]
  go_wp2_with (fail)
  refine (pick_any W g (K) 4 _ HC.out (by omega) (by omega)).mono ?_
  rintro e w5 ⟨⟨r, rfl, -⟩, h4, h5⟩
  have H5 := Lib.hid h4; have R5 := Lib.hid (blk_dr RC.out h5 (by omega)); have D5 := Lib.hid (DC.out.trans h5)
  have hs5 : w.heap.size + 1 ≤ w5.heap.size := by have := lt_of_block R5.out; omega
  clear h4 h5 HC RC DC
  by_cases hr0 : r = 0
  · subst hr0
    go_wp2_with (fail)
    refine (num_any W g (K + 1) w5.heap.size 5 [1, 2, 0, 99, 3] _ (H5.out.ext ((Ext.refl w5).alloc _)) (by omega) rfl (by omega) (by omega) (blk_at rfl) (by omega)).mono ?_
    rintro e w6 ⟨⟨x, rfl, -⟩, h4, h5⟩
    have HX := Lib.hid h4; have RX := Lib.hid (blk_dr (blk_old R5.out) h5 (by omega)); have DX := Lib.hid ((D5.out.alloc _).trans h5)
    clear h4 h5 H5 R5 D5
    obtain ⟨r0, r1, r2, r3, r4, r5, r6⟩ := blk7 RX.out
    have f0 := blk7f RX.out 0; have f1 := blk7f RX.out 1; have f2 := blk7f RX.out 2; have f3 := blk7f RX.out 3; have f4 := blk7f RX.out 4; have f5 := blk7f RX.out 5; have f6 := blk7f RX.out 6
    go_wp2
    refine bodyPost_ret (v := .agg #[.int .i64 1, .int .i64 x, .slice none 0 0, .int .i64 0, .string ⟨#[]⟩, .slice none 0 0, .slice none 0 0]) (by simp [results, Try.results87, go_sem, r0, r1, r2, r3, r4, r5, r6]) rfl ⟨⟨[.int .i64 1, .int .i64 x, .slice none 0 0, .int .i64 0, .string ⟨#[]⟩, .slice none 0 0, .slice none 0 0], (.mk 1 x ([], 0) ⟨#[]⟩ [] []), rfl, ?_, (GdE.leaf (.inl rfl) (FourA.nil8 8))⟩, ?_, ?_⟩
    · refine ExO.weak (B := w.heap.size + 1) ?_ (by omega)
      repeat (refine ExO.setOld ?_ (by simp <;> omega) _)
      exact (ExO.of (IntsOwn.nil _ _) (by decide) (AffsOwn.nil _ _) (ExsO.nil _ _))
    · refine Rd.mono (K := K + 1 + 1) ?_ (by omega)
      repeat (refine Rd.set ?_ (by omega) _)
      exact HX.out
    · repeat (refine Dr.set ?_ (by omega) _)
      exact DX.out
  · have hb0 : ((r : Int) == 0) = false := by simp; omega
    clear hr0
    by_cases hr1 : r = 1
    · subst hr1
      go_wp2_with (fail)
      refine (l1Draw_any W g (K + 1) d w5 H5.out (by omega) hd).mono ?_
      rintro e w6 ⟨⟨p6, c6, k6, xs, rfl, hx4, ho6⟩, h4, h5⟩
      have HX := Lib.hid h4; have RX := Lib.hid (blk_dr R5.out h5 (by omega)); have DX := Lib.hid (D5.out.trans h5)
      have HO := Lib.hid (show IntsOwn (w.heap.size + 1) w6 (.slice p6 4 c6) xs from IntsOwn.mk (ownsRow_weak ho6 hs5) hx4)
      clear h4 h5 H5 R5 D5 ho6
      obtain ⟨r0, r1, r2, r3, r4, r5, r6⟩ := blk7 RX.out
      have f0 := blk7f RX.out 0; have f1 := blk7f RX.out 1; have f2 := blk7f RX.out 2; have f3 := blk7f RX.out 3; have f4 := blk7f RX.out 4; have f5 := blk7f RX.out 5; have f6 := blk7f RX.out 6
      go_wp2
      refine bodyPost_ret (v := .agg #[.int .i64 2, .int .i64 0, .slice p6 4 c6, .int .i64 k6, .string ⟨#[]⟩, .slice none 0 0, .slice none 0 0]) (by simp [results, Try.results87, go_sem, r0, r1, r2, r3, r4, r5, r6]) rfl ⟨⟨[.int .i64 2, .int .i64 0, .slice p6 4 c6, .int .i64 k6, .string ⟨#[]⟩, .slice none 0 0, .slice none 0 0], (.mk 2 0 (xs, k6) ⟨#[]⟩ [] []), rfl, ?_, (GdE.leaf (.inr hx4) (FourA.nil8 8))⟩, ?_, ?_⟩
      · refine ExO.weak (B := w.heap.size + 1) ?_ (by omega)
        repeat (refine ExO.setOld ?_ (by simp <;> omega) _)
        exact (ExO.of HO.out (by decide) (AffsOwn.nil _ _) (ExsO.nil _ _))
      · refine Rd.mono (K := K + 1 + 5) ?_ (by omega)
        repeat (refine Rd.set ?_ (by omega) _)
        exact HX.out
      · repeat (refine Dr.set ?_ (by omega) _)
        exact DX.out
    · have hb1 : ((r : Int) == 1) = false := by simp; omega
      clear hr1
      go_wp2_with (fail)
      refine (l3Elem_any W g (K + 1) d w5 H5.out (by omega) hd).mono ?_
      rintro e w6 ⟨⟨arr, q6, n6, c6, subs, rfl, hsz, hsl, hf, ho6⟩, h4, h5⟩
      have HX := Lib.hid h4; have RX := Lib.hid (blk_dr R5.out h5 (by omega)); have DX := Lib.hid (D5.out.trans h5)
      have HO := Lib.hid (AffsOwn.weak ho6 hs5); have HF := Lib.hid hf
      clear h4 h5 H5 R5 D5 ho6 hf
      obtain ⟨r0, r1, r2, r3, r4, r5, r6⟩ := blk7 RX.out
      have f0 := blk7f RX.out 0; have f1 := blk7f RX.out 1; have f2 := blk7f RX.out 2; have f3 := blk7f RX.out 3; have f4 := blk7f RX.out 4; have f5 := blk7f RX.out 5; have f6 := blk7f RX.out 6
      go_wp2
      refine bodyPost_ret (v := .agg #[.int .i64 3, .int .i64 0, .slice none 0 0, .int .i64 0, .string arr, .slice q6 n6 c6, .slice none 0 0]) (by simp [results, Try.results87, go_sem, r0, r1, r2, r3, r4, r5, r6]) rfl ⟨⟨[.int .i64 3, .int .i64 0, .slice none 0 0, .int .i64 0, .string arr, .slice q6 n6 c6, .slice none 0 0], (.mk 3 0 ([], 0) arr subs []), rfl, ?_, (GdE.leaf (.inl rfl) (HF.out.mono (by omega)))⟩, ?_, ?_⟩
      · refine ExO.weak (B := w.heap.size + 1) ?_ (by omega)
        repeat (refine ExO.setOld ?_ (by simp <;> omega) _)
        exact (ExO.of (IntsOwn.nil _ _) (by omega) HO.out (ExsO.nil _ _))
      · refine Rd.mono (K := K + 1 + 12) ?_ (by omega)
        repeat (refine Rd.set ?_ (by omega) _)
        exact HX.out
      · repeat (refine Dr.set ?_ (by omega) _)
        exact DX.out

end Go.Proofs.Ytccibfldadflkaa

/- Draws of statements: an expression of more levels (by x2.py). No statement is proved here. -/
namespace Go.Proofs.Ytccibfldadflkaa
open Go.RowKit

set_option linter.unusedVariables false in
set_option linter.unusedSimpArgs false in
set_option maxRecDepth 100000 in
set_option maxHeartbeats 8000000 in
theorem l3Value_next (L : Nat) (hL : 1 ≤ L) (hL3 : L ≤ 4) (IH : VlOf L) : VlOf (L + 1) := by
  intro W g K d w hr hK hd
  obtain ⟨i0, hi, hz0, hz1, hz2⟩ := info_parts infoExpr
  have hlg := hr.lt
  have hc := cstV_ge L
  have hcs : cstV (L + 1) = 2 + 2 * cstV L := rfl
  rw [hcs] at hK ⊢
  obtain ⟨lv, hlv⟩ : ∃ x : Int, ((L + 1 : Nat) : Int) = x := ⟨_, rfl⟩
  rw [hlv]
  have hlt : ¬ lv < 2 := by omega
  have hl1 : lv - 1 = (L : Int) := by omega
  have hlb : lv ≤ 5 := by omega
  have HR := Lib.hid hr
  clear hr hlv hcs
  obtain ⟨RB, HRB0⟩ : ∃ a, Hid (w.heap.size = a) := ⟨_, Lib.hid rfl⟩
  obtain ⟨wz, hwz⟩ : ∃ W, w.alloc (.cells #[.int .i64 0, .int .i64 0, .slice none 0 0, .int .i64 0, .string ⟨#[]⟩, .slice none 0 0, .slice none 0 0] 54) = W := ⟨_, rfl⟩
  have EZ : Ext w wz := by rw [← hwz]; exact (Ext.refl w).alloc _
  have RZ : Hid (wz.heap[w.heap.size]? = some (.cells #[.int .i64 0, .int .i64 0, .slice none 0 0, .int .i64 0, .string ⟨#[]⟩, .slice none 0 0, .slice none 0 0] 54 (0, 0))) := Lib.hid (by rw [← hwz]; exact blk_at rfl)
  have HZ := Lib.hid (HR.out.ext EZ); have DZ := Lib.hid ((Dr.refl w g).ext EZ)
  have HWZ := Lib.hid hwz
  clear hwz EZ HR
  go_enter Try.func87, Try.ntmps87
  go_wp2_with (fail)
  try rw [HWZ.out]
  refine (pick_any W g K 4 wz HZ.out (by omega) (by omega)).mono ?_
  rintro e w3 ⟨⟨r9, rfl, -⟩, h4, h5⟩
  have HC := Lib.hid h4; have RC := Lib.hid (blk_dr RZ.out h5 (by omega)); have DC := Lib.hid (DZ.out.trans h5)
  clear h4 h5 HZ RZ DZ
  by_cases hr9 : r9 = 0
  · subst hr9
    go_wp2_with (fail)
    refine (pick_any W g (K + 1) 4 _ HC.out (by omega) (by omega)).mono ?_
    rintro e w5 ⟨⟨r, rfl, -⟩, h4, h5⟩
    have H5 := Lib.hid h4; have R5 := Lib.hid (blk_dr RC.out h5 (by omega)); have D5 := Lib.hid (DC.out.trans h5)
    have hs5 : w.heap.size + 1 ≤ w5.heap.size := by have := lt_of_block R5.out; omega
    clear h4 h5 HC RC DC
    by_cases hr0 : r = 0
    · subst hr0
      go_wp2_with (fail)
      refine (num_any W g (K + 1 + 1) w5.heap.size 5 [1, 2, 0, 99, 3] _ (H5.out.ext ((Ext.refl w5).alloc _)) (by omega) rfl (by omega) (by omega) (blk_at rfl) (by omega)).mono ?_
      rintro e w6 ⟨⟨x, rfl, -⟩, h4, h5⟩
      have HX := Lib.hid h4; have RX := Lib.hid (blk_dr (blk_old R5.out) h5 (by omega)); have DX := Lib.hid ((D5.out.alloc _).trans h5)
      clear h4 h5 H5 R5 D5
      obtain ⟨r0, r1, r2, r3, r4, r5, r6⟩ := blk7 RX.out
      have f0 := blk7f RX.out 0; have f1 := blk7f RX.out 1; have f2 := blk7f RX.out 2; have f3 := blk7f RX.out 3; have f4 := blk7f RX.out 4; have f5 := blk7f RX.out 5; have f6 := blk7f RX.out 6
      go_wp2
      refine bodyPost_ret (v := .agg #[.int .i64 1, .int .i64 x, .slice none 0 0, .int .i64 0, .string ⟨#[]⟩, .slice none 0 0, .slice none 0 0]) (by simp [results, Try.results87, go_sem, r0, r1, r2, r3, r4, r5, r6]) rfl ⟨⟨[.int .i64 1, .int .i64 x, .slice none 0 0, .int .i64 0, .string ⟨#[]⟩, .slice none 0 0, .slice none 0 0], (.mk 1 x ([], 0) ⟨#[]⟩ [] []), rfl, ?_, (GdE.leaf (.inl rfl) (FourA.nil8 8))⟩, ?_, ?_⟩
      · refine ExO.weak (B := w.heap.size + 1) ?_ (by omega)
        repeat (refine ExO.setOld ?_ (by simp <;> omega) _)
        exact (ExO.of (IntsOwn.nil _ _) (by decide) (AffsOwn.nil _ _) (ExsO.nil _ _))
      · refine Rd.mono (K := K + 1 + 1 + 1) ?_ (by omega)
        repeat (refine Rd.set ?_ (by omega) _)
        exact HX.out
      · repeat (refine Dr.set ?_ (by omega) _)
        exact DX.out
    · have hb0 : ((r : Int) == 0) = false := by simp; omega
      clear hr0
      by_cases hr1 : r = 1
      · subst hr1
        go_wp2_with (fail)
        refine (l1Draw_any W g (K + 1 + 1) d w5 H5.out (by omega) hd).mono ?_
        rintro e w6 ⟨⟨p6, c6, k6, xs, rfl, hx4, ho6⟩, h4, h5⟩
        have HX := Lib.hid h4; have RX := Lib.hid (blk_dr R5.out h5 (by omega)); have DX := Lib.hid (D5.out.trans h5)
        have HO := Lib.hid (show IntsOwn (w.heap.size + 1) w6 (.slice p6 4 c6) xs from IntsOwn.mk (ownsRow_weak ho6 hs5) hx4)
        clear h4 h5 H5 R5 D5 ho6
        obtain ⟨r0, r1, r2, r3, r4, r5, r6⟩ := blk7 RX.out
        have f0 := blk7f RX.out 0; have f1 := blk7f RX.out 1; have f2 := blk7f RX.out 2; have f3 := blk7f RX.out 3; have f4 := blk7f RX.out 4; have f5 := blk7f RX.out 5; have f6 := blk7f RX.out 6
        go_wp2
        refine bodyPost_ret (v := .agg #[.int .i64 2, .int .i64 0, .slice p6 4 c6, .int .i64 k6, .string ⟨#[]⟩, .slice none 0 0, .slice none 0 0]) (by simp [results, Try.results87, go_sem, r0, r1, r2, r3, r4, r5, r6]) rfl ⟨⟨[.int .i64 2, .int .i64 0, .slice p6 4 c6, .int .i64 k6, .string ⟨#[]⟩, .slice none 0 0, .slice none 0 0], (.mk 2 0 (xs, k6) ⟨#[]⟩ [] []), rfl, ?_, (GdE.leaf (.inr hx4) (FourA.nil8 8))⟩, ?_, ?_⟩
        · refine ExO.weak (B := w.heap.size + 1) ?_ (by omega)
          repeat (refine ExO.setOld ?_ (by simp <;> omega) _)
          exact (ExO.of HO.out (by decide) (AffsOwn.nil _ _) (ExsO.nil _ _))
        · refine Rd.mono (K := K + 1 + 1 + 5) ?_ (by omega)
          repeat (refine Rd.set ?_ (by omega) _)
          exact HX.out
        · repeat (refine Dr.set ?_ (by omega) _)
          exact DX.out
      · have hb1 : ((r : Int) == 1) = false := by simp; omega
        clear hr1
        go_wp2_with (fail)
        refine (l3Elem_any W g (K + 1 + 1) d w5 H5.out (by omega) hd).mono ?_
        rintro e w6 ⟨⟨arr, q6, n6, c6, subs, rfl, hsz, hsl, hf, ho6⟩, h4, h5⟩
        have HX := Lib.hid h4; have RX := Lib.hid (blk_dr R5.out h5 (by omega)); have DX := Lib.hid (D5.out.trans h5)
        have HO := Lib.hid (AffsOwn.weak ho6 hs5); have HF := Lib.hid hf
        clear h4 h5 H5 R5 D5 ho6 hf
        obtain ⟨r0, r1, r2, r3, r4, r5, r6⟩ := blk7 RX.out
        have f0 := blk7f RX.out 0; have f1 := blk7f RX.out 1; have f2 := blk7f RX.out 2; have f3 := blk7f RX.out 3; have f4 := blk7f RX.out 4; have f5 := blk7f RX.out 5; have f6 := blk7f RX.out 6
        go_wp2
        refine bodyPost_ret (v := .agg #[.int .i64 3, .int .i64 0, .slice none 0 0, .int .i64 0, .string arr, .slice q6 n6 c6, .slice none 0 0]) (by simp [results, Try.results87, go_sem, r0, r1, r2, r3, r4, r5, r6]) rfl ⟨⟨[.int .i64 3, .int .i64 0, .slice none 0 0, .int .i64 0, .string arr, .slice q6 n6 c6, .slice none 0 0], (.mk 3 0 ([], 0) arr subs []), rfl, ?_, (GdE.leaf (.inl rfl) (HF.out.mono (by omega)))⟩, ?_, ?_⟩
        · refine ExO.weak (B := w.heap.size + 1) ?_ (by omega)
          repeat (refine ExO.setOld ?_ (by simp <;> omega) _)
          exact (ExO.of (IntsOwn.nil _ _) (by omega) HO.out (ExsO.nil _ _))
        · refine Rd.mono (K := K + 1 + 1 + 12) ?_ (by omega)
          repeat (refine Rd.set ?_ (by omega) _)
          exact HX.out
        · repeat (refine Dr.set ?_ (by omega) _)
          exact DX.out
  · have hb9 : ((r9 : Int) == 0) = false := by simp; omega
    clear hr9
    go_wp2_with (fail)
    refine (num_any W g (K + 1) w3.heap.size 4 [4, 6, 5, 4] _ (HC.out.ext ((Ext.refl w3).alloc _)) (by omega) rfl (by omega) (by omega) (blk_at rfl) (by have := lt_of_block RC.out; omega)).mono ?_
    rintro e w4 ⟨⟨kind, rfl, -⟩, h4, h5⟩
    obtain ⟨EB, hEB⟩ : ∃ a, w4.heap.size = a := ⟨_, rfl⟩
    obtain ⟨w5, hw5⟩ : ∃ W, w4.alloc (.cells #[.int .i64 kind, .int .i64 0, .slice none 0 0, .int .i64 0, .string ⟨#[]⟩, .slice none 0 0, .slice none 0 0] 54) = W := ⟨_, rfl⟩
    have E45 : Ext w4 w5 := by rw [← hw5]; exact (Ext.refl w4).alloc _
    have RB4 := blk_dr (blk_old (o := .cells #[.int .i64 4, .int .i64 6, .int .i64 5, .int .i64 4] 3) RC.out) h5 (by omega)
    have hRE : RB < EB := by have := lt_of_block RB4; have := HRB0.out; omega
    have H5 := Lib.hid (h4.ext E45); have R5 := Lib.hid (E45.blk RB4); have D5 := Lib.hid (((DC.out.alloc _).trans h5).ext E45)
    have B5 : Hid (w5.heap[EB]? = some (.cells #[.int .i64 kind, .int .i64 0, .slice none 0 0, .int .i64 0, .string ⟨#[]⟩, .slice none 0 0, .slice none 0 0] 54 (0, 0))) := Lib.hid (by rw [← hw5]; exact blk_at hEB.symm)
    have HW5 := Lib.hid hw5; have HEB0 := Lib.hid hEB
    rw [HRB0.out] at R5 hlg
    have hwRB : w.heap.size ≤ RB := by have := HRB0.out; omega
    clear h4 h5 HC RC DC E45 RB4 hw5 hEB
    go_wp2
    try rw [HEB0.out]
    try rw [HW5.out]
    try rw [HRB0.out]
    go_loopw [8] (fun iv wr => ∃ (k : Nat) (q : Option Addr) (c : Nat) (css : List (List Value)) (es : List Ex), k ≤ 2 ∧ iv = .int .i64 k ∧ RowV EB wr q k c css es ∧ wr.heap[EB]? = some (.cells #[.int .i64 kind, .int .i64 0, .slice none 0 0, .int .i64 0, .string ⟨#[]⟩, .slice none 0 0, .slice q k c] 54 (0, 0)) ∧
      wr.heap[RB]? = some (.cells #[.int .i64 0, .int .i64 0, .slice none 0 0, .int .i64 0, .string ⟨#[]⟩, .slice none 0 0, .slice none 0 0] 54 (0, 0)) ∧ Rd W g (K + 2 + k * cstV L) wr ∧ Dr w g wr) (fun iv _ => 2 - (intOf iv).toNat)
    case atStart => exact ⟨0, _, _, _, _, by omega, rfl, RowV.nil _ _, B5.out, R5.out, by rw [Nat.zero_mul]; exact H5.out, D5.out⟩
    case round =>
      obtain ⟨k, q, c, css, es, hk, rfl, hRV, hEB, hRB, hRD, hDR⟩ := hrel
      have HRV := Lib.hid hRV; have HEB := Lib.hid hEB; have HRB := Lib.hid hRB; have HRD := Lib.hid hRD; have HDR := Lib.hid hDR
      have hEl := lt_of_block hEB
      have HQ : Hid (∀ b, (Value.slice q k c).ownBlock = some b → b < wr.heap.size) := Lib.hid (fun b hb => (hRV.2.2.1.lt b hb).2)
      have HK9 := Lib.hid hK
      clear hRV hEB hRB hRD hDR B5 R5 H5 D5
      by_cases hlt2 : k < 2
      · have hkI : (k : Int) < 2 := by omega
        obtain ⟨K1, hK1⟩ : ∃ a, K + 2 + k * cstV L = a := ⟨_, rfl⟩
        have hKL : K1 + cstV L ≤ 90000 := by
          have h1 : k * cstV L ≤ 1 * cstV L := Nat.mul_le_mul_right _ (by omega)
          omega
        rw [hK1] at HRD
        have HKK := Lib.hid hK1
        have hwE : EB + 1 ≤ wr.heap.size := hEl
        clear hK1 hK
        have hwl : IntKind.i64.wrap (L : Int) = (L : Int) := by rw [IntKind.wrap_i64]; omega
        go_wp2_with (fail)
        refine wp_region_last (S := (fun W => W.cell? ⟨EB, 6, none⟩ = some (.slice q k c))) (by kernel_rfl) (show wr.drew.cell? ⟨EB, 6, none⟩ = _ from (blk7 HEB.out).2.2.2.2.2.2) (fun hHeld => ?_)
        refine tkL (some 42) 0 ?vs1 rfl (by kernel_rfl) (by kernel_rfl) (fun _ _ _ h => h) (Or.inl ⟨by rfl, ?hys1⟩) (by assumption) ?rs1
        case hys1 => intro w hSw; (try dsimp only at hSw); go_simp; first | done | with_reducible rfl
        case' rs1 => try simp only [Act.put, List.setIfInBounds_toArray, List.set_cons_zero, List.set_cons_succ]
        refine tkL (some 43) 1 ?vs2 rfl (by kernel_rfl) (by kernel_rfl) (fun _ _ _ h => h) (Or.inl ⟨by rfl, ?hys2⟩) (by assumption) ?rs2
        case hys2 => intro w hSw; (try dsimp only at hSw); go_simp; first | done | with_reducible rfl
        case' rs2 => try simp only [Act.put, List.setIfInBounds_toArray, List.set_cons_zero, List.set_cons_succ]
        refine tkL (some 44) 2 ?vs3 rfl (by kernel_rfl) (by kernel_rfl) (fun _ _ _ h => h) (Or.inl ⟨by rfl, ?hys3⟩) (by assumption) ?rs3
        case hys3 => intro w hSw; (try dsimp only at hSw); go_simp; first | done | with_reducible rfl
        case' rs3 => try simp only [Act.put, List.setIfInBounds_toArray, List.set_cons_zero, List.set_cons_succ]
        refine tkL (some 45) 3 ?vs4 rfl (by kernel_rfl) (by kernel_rfl) (fun _ _ _ h => h) (Or.inl ⟨by rfl, ?hys4⟩) (by assumption) ?rs4
        case hys4 => intro w hSw; (try dsimp only at hSw); go_simp; first | done | with_reducible rfl
        case' rs4 => try simp only [Act.put, List.setIfInBounds_toArray, List.set_cons_zero, List.set_cons_succ]
        refine tkL (some 46) 4 ?vs5 rfl (by kernel_rfl) (by kernel_rfl) (fun _ _ _ h => h) (Or.inl ⟨by rfl, ?hys5⟩) (by assumption) ?rs5
        case hys5 => intro w hSw; (try dsimp only at hSw); go_simp; first | done | with_reducible rfl
        case' rs5 => try simp only [Act.put, List.setIfInBounds_toArray, List.set_cons_zero, List.set_cons_succ]
        refine tkL (some 47) 5 ?vs6 rfl (by kernel_rfl) (by kernel_rfl) (fun _ _ _ h => h) (Or.inl ⟨by rfl, ?hys6⟩) (by assumption) ?rs6
        case hys6 => intro w hSw; (try dsimp only at hSw); go_simp; first | done | with_reducible rfl
        case' rs6 => try simp only [Act.put, List.setIfInBounds_toArray, List.set_cons_zero, List.set_cons_succ]
        refine oneL (i := 6) rfl (by kernel_rfl) (fun K9 hK => ?_)
        (go_simp; refine (IH W g K1 d _ (HRD.out.ext (Ext.refl wr).drew) (by omega) hd).mono ?_; rintro e v4 ⟨⟨cs, ex, rfl, hx4, hgd4⟩, hr4, hd4⟩; obtain ⟨kd, nm, qa, na, ca, kk, ar, qb, nb, cb, qc, nc, cc, rfl⟩ := hx4.seven; have EB4 := blk_dr (show wr.drew.heap[EB]? = _ from HEB.out) hd4 (by omega); have cE4 := (blk7 EB4).2.2.2.2.2.2)
        refine hK.out _ _ cE4 (fun hHs7 => ?_)
        clear hK K9
        try simp only [Act.put, List.setIfInBounds_toArray, List.set_cons_zero, List.set_cons_succ]
        refine oneL (i := 7) rfl (by kernel_rfl) (fun K9 hK => ?_)
        go_simp
        refine hK.out _ _ (EA0 v4 _ cE4) (fun hHs8 => ?_)
        clear hK K9
        try simp only [Act.put, List.setIfInBounds_toArray, List.set_cons_zero, List.set_cons_succ]
        refine oneL (i := 8) rfl (by kernel_rfl) (fun K9 hK => ?_)
        (have EA : Ext v4 (v4.alloc (.cells #[.int .i64 kd, .int .i64 nm, .slice qa na ca, .int .i64 kk, .string ar, .slice qb nb cb, .slice qc nc cc] 54)) := (Ext.refl v4).alloc _; have hlv4 : Lv (fun b => b ≤ EB) wr v4 := (Dr.trans ((Dr.refl wr g).drew) hd4).lvG (by omega); have hrow4 := (HRV.out.lv hlv4); have ho := ownsRow_ext hrow4.2.2.1 EA; refine step_append_at _ rfl (.tmp 43) (.tmp 49) 52 rfl (EB + 1) 54 i0 (.agg #[.int .i64 0, .int .i64 0, .slice none 0 0, .int .i64 0, .string ⟨#[]⟩, .slice none 0 0, .slice none 0 0]) 7 112 Try.underlying52 hi hz0 hz1 hz2 rfl (by decide) (.slice q k c) k css.flatten rfl ho ⟨v4.heap.size, 0, none⟩ 1 1 [.int .i64 kd, .int .i64 nm, .slice qa na ca, .int .i64 kk, .string ar, .slice qb nb cb, .slice qc nc cc] rfl rfl (seven_cells rfl) (by intro u hu; simp only [List.mem_cons, List.not_mem_nil, or_false] at hu; rcases hu with rfl | rfl | rfl | rfl | rfl | rfl | rfl <;> rfl) (by unfold maxLen; omega) (by omega) (by have := EA.size_le; have := hlv4.size; omega) ?_; intro v' w7 hown7 hgr7 hnil7 hat7; obtain ⟨q', c', rfl⟩ := own_shapeX hown7 (by omega); have EB7 := grownBy_blk hgr7 (EA.blk EB4) (fun e' => by have := (ho.lt EB e'.symm).1; omega); have cE7 := (blk7 EB7).2.2.2.2.2.2; have fE7 := blk7f EB7 6)
        refine hK.out _ _ cE7 (fun hHs9 => ?_)
        clear hK K9
        try simp only [Act.put, List.setIfInBounds_toArray, List.set_cons_zero, List.set_cons_succ]
        refine tkL (some 51) 9 ?vs10 rfl (by kernel_rfl) (by kernel_rfl) (fun _ _ _ h => h) (Or.inl ⟨by rfl, ?hys10⟩) (by assumption) ?rs10
        case hys10 => intro w hSw; (try dsimp only at hSw); go_simp; first | done | with_reducible rfl
        case' rs10 => try simp only [Act.put, List.setIfInBounds_toArray, List.set_cons_zero, List.set_cons_succ]
        refine lastL (i := 10) rfl (by kernel_rfl) (by kernel_rfl) (fun K9 hK => ?_)
        go_simp
        refine hK.out _ _ ?_
        clear hK K9
        try simp only [Act.put, List.setIfInBounds_toArray, List.set_cons_zero, List.set_cons_succ]
        have hst := RowV.push (cs := [.int .i64 kd, .int .i64 nm, .slice qa na ca, .int .i64 kk, .string ar, .slice qb nb cb, .slice qc nc cc]) (e := ex) (hrow4.lv (EA.lv)) hown7 hgr7 hat7 rfl (ElV.new (Bi := wr.heap.size) hx4 EA hwE (fun b hb => .inl (HQ.out b hb))) hgd4
        have hset : Lv (fun b => b ≤ EB) w7 (w7.setCell ⟨EB, 6, none⟩ (.slice q' (k + 1) c')) := Lv.grown (grown_set w7 EB 6 _) (fun r e _ => by have := Option.some.inj e; omega)
        have HST := Lib.hid (hst.lv hset)
        have EBX := Lib.hid (blk7_set6 (u := .slice q' (k + 1) c') EB7)
        have hdw : Dr w g w7 := (((HDR.out.drew).trans hd4).ext EA).fresh hgr7 (fun j hj => by have := (ho.lt j hj).1; omega)
        have HDX := Lib.hid (hdw.set (j := EB) (o := 6) (by omega) (.slice q' (k + 1) c'))
        have hrd7 : Rd W g (K1 + cstV L) w7 := (hr4.ext EA).beside hgr7 (fun j hj => by have := (ho.lt j hj).1; omega)
        have HRX := Lib.hid (hrd7.set (b := EB) (o := 6) (by omega) (.slice q' (k + 1) c'))
        have hRB : RB ≠ EB := by omega
        have RB4 := blk_dr (show wr.drew.heap[RB]? = _ from HRB.out) hd4 (by omega)
        have RB7 := grownBy_blk hgr7 (EA.blk RB4) (fun e' => by have := (ho.lt RB e'.symm).1; omega)
        have HRBX := Lib.hid (blk_off (g' := EB) (o' := 6) RB7 hRB (.slice q' (k + 1) c'))
        clear hwl hst hset hdw hrd7 RB4 RB7 hown7 hgr7 hat7 hnil7 ho hrow4 hlv4 EA EB4 EB7 cE4 cE7 fE7 hx4 hgd4 hr4 hd4
        go_wp2
        go_roundw
        case rel => exact ⟨k + 1, _, _, _, _, by omega, by go_num, HST.out, EBX.out, HRBX.out, by rw [show K + 2 + (k + 1) * cstV L = K1 + cstV L by have := HKK.out; rw [Nat.succ_mul]; omega]; exact HRX.out, HDX.out⟩
        case measure => simp [intOf]; omega
      · obtain rfl : k = 2 := by omega
        obtain ⟨hex, hgd⟩ := HRV.out.exs
        have hel : es.length = 2 := HRV.out.2.1
        have HO := Lib.hid hex; have HGD := Lib.hid hgd
        obtain ⟨r0, r1, r2, r3, r4, r5, r6⟩ := blk7 HRB.out
        obtain ⟨e0, e1, e2, e3, e4, e5, e6⟩ := blk7 HEB.out
        have f0 := blk7f HRB.out 0; have f1 := blk7f HRB.out 1; have f2 := blk7f HRB.out 2; have f3 := blk7f HRB.out 3; have f4 := blk7f HRB.out 4; have f5 := blk7f HRB.out 5; have f6 := blk7f HRB.out 6
        clear hex hgd
        go_wp2
        refine bodyPost_ret (v := .agg #[.int .i64 kind, .int .i64 0, .slice none 0 0, .int .i64 0, .string ⟨#[]⟩, .slice none 0 0, .slice q 2 c]) (by simp [results, Try.results87, go_sem, r0, r1, r2, r3, r4, r5, r6]) rfl ⟨⟨[.int .i64 kind, .int .i64 0, .slice none 0 0, .int .i64 0, .string ⟨#[]⟩, .slice none 0 0, .slice q 2 c], .mk kind 0 ([], 0) ⟨#[]⟩ [] es, rfl, ?_, .mk _ _ _ _ _ _ _ (.inl rfl) (FourA.nil8 8) (by omega) HGD.out⟩, ?_, ?_⟩
        · refine ExO.weak (B := EB + 1) ?_ (by omega)
          repeat (refine ExO.setOld ?_ (by simp <;> omega) _)
          exact ExO.of (IntsOwn.nil _ _) (by decide) (AffsOwn.nil _ _) HO.out
        · refine Rd.mono (K := K + 2 + 2 * cstV L) ?_ (by omega)
          repeat (refine Rd.set ?_ (by omega) _)
          exact HRD.out
        · repeat (refine Dr.set ?_ (by omega) _)
          exact HDR.out

theorem l3Value_any (L : Nat) (hL : L ≤ 4) : VlOf L := by
  induction L with
  | zero => exact l3Value_low 0 (by omega)
  | succ L ih =>
    by_cases h : L = 0
    · subst h; exact l3Value_low 1 (by omega)
    · exact l3Value_next L (by omega) (by omega) (ih (by omega))
end Go.Proofs.Ytccibfldadflkaa
