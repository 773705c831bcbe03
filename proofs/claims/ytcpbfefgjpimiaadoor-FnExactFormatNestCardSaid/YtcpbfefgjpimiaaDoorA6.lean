/- Contracts: sums, multiples, substitutions. -/
import Derived.Test.YtcpbfefgjpimiaaDoorA5
namespace Go.Proofs.YtcpbfefgjpimiaaDoor
open Go.RowKit

/-- An affine expression and a bool are handed back, the expression in new memory. -/
def AffRet (B : Nat) (w : World) (e : Ending) (r : List Int × Int × Bool) : Prop :=
  ∃ p cc, e = .returned (.tuple #[.agg #[.slice p r.1.length cc, .int .i64 r.2.1], .bool r.2.2]) ∧ IntsOwn B w (.slice p r.1.length cc) r.1

def chk (xs : List Int) (c : Int) : List Int × Int × Bool := if affValidB xs c = true then (xs, c, true) else ([], 0, false)

theorem AffRet.none (B : Nat) (w : World) : AffRet B w (.returned (.tuple #[.agg #[.slice none 0 0, .int .i64 0], .bool false])) ([], 0, false) :=
  ⟨Option.none, 0, rfl, World.ownsRow_nil _ _ _ _⟩
theorem AffRet.weak {B B' : Nat} {w : World} {e : Ending} {r : List Int × Int × Bool} (h : AffRet B w e r) (hB : B' ≤ B) : AffRet B' w e r := by
  obtain ⟨p, cc, h1, h2⟩ := h
  exact ⟨p, cc, h1, h2.weak hB⟩

theorem affine_any (a b c d k : Int) (w : World) :
    Calls Tryd.prog 42 #[.agg #[.int .i64 a, .int .i64 b, .int .i64 c, .int .i64 d, .int .i64 k]] w fun e w' => AffRet w.heap.size w' e (chk [a, b, c, d] k) ∧ Ext w w' := by
  cases hv : affValidB [a, b, c, d] k with
  | true =>
    refine (affine_yes a b c d k w hv).mono ?_
    rintro e w' ⟨⟨p, cc, rfl, ho⟩, hE⟩
    unfold chk
    rw [if_pos hv]
    exact ⟨⟨p, cc, rfl, ho⟩, hE⟩
  | false =>
    refine (affine_no a b c d k w hv).mono ?_
    rintro e w' ⟨rfl, hE⟩
    unfold chk
    rw [if_neg (by rw [hv]; decide)]
    exact ⟨AffRet.none _ _, hE⟩

def addR (xs : List Int) (c : Int) (ys : List Int) (d : Int) : List Int × Int × Bool :=
  if affValidB xs c = true ∧ affValidB ys d = true then chk (List.zipWith (· + ·) xs ys) (c + d) else ([], 0, false)

set_option maxHeartbeats 1000000 in
theorem AddAffine_yes (s t : Value) (xs ys : List Int) (k l : Int) (w : World) (hs : IntsAt w s xs) (ht : IntsAt w t ys) (hx : affValidB xs k = true) (hy : affValidB ys l = true) :
    Calls Tryd.prog 19 #[.agg #[s, .int .i64 k], .agg #[t, .int .i64 l]] w fun e w' => AffRet w.heap.size w' e (addR xs k ys l) ∧ Ext w w' := by
  have hR : addR xs k ys l = chk (List.zipWith (· + ·) xs ys) (k + l) := by unfold addR; rw [if_pos ⟨hx, hy⟩]
  rw [hR]; clear hR
  obtain ⟨a0, a1, a2, a3, rfl, ⟨la0, ua0⟩, ⟨la1, ua1⟩, ⟨la2, ua2⟩, ⟨la3, ua3⟩, ⟨lk, uk⟩⟩ := valid_four hx
  obtain ⟨b0, b1, b2, b3, rfl, ⟨lb0, ub0⟩, ⟨lb1, ub1⟩, ⟨lb2, ub2⟩, ⟨lb3, ub3⟩, ⟨ll, ul⟩⟩ := valid_four hy
  have HX := Lib.hid hx; have HY := Lib.hid hy; clear hx hy
  have HS := Lib.hid hs; have HT := Lib.hid ht; clear hs ht
  obtain ⟨p, cp, rfl, -, -⟩ := HS.out
  obtain ⟨q, cq, rfl, -, -⟩ := HT.out
  simp only [List.zipWith_cons_cons, List.zipWith_nil_right]
  obtain ⟨r1, r2, r3, hr⟩ : ∃ r1 r2 r3, chk [a0 + b0, a1 + b1, a2 + b2, a3 + b3] (k + l) = (r1, r2, r3) := ⟨_, _, _, rfl⟩
  rw [hr]
  have HR := Lib.hid hr; clear hr
  go_enter Tryd.func19, Tryd.ntmps19
  go_wp2_with (fail)
  refine (linearOf_yes _ a0 a1 a2 a3 k _ (HS.out.ext ((((Ext.refl w).alloc _).alloc _).alloc _)) HX.out).mono ?_
  rintro e W1 ⟨rfl, hE⟩
  have E1 : Hid (Ext w W1) := ((((Ext.refl w).alloc _).alloc _).alloc _).trans hE
  have B3 := hE.blk (g := w.heap.size + 1) (o := .cells #[.slice q 4 cq, .int .i64 l] 27 (0, 0)) (blk_old (blk_at (by simp)))
  have B4 := hE.blk (g := w.heap.size + 1 + 1) (o := .cells #[.slice none 0 0, .int .i64 0] 27 (0, 0)) (blk_at (by simp))
  have L3 := lt_of_block B3
  have L4 := lt_of_block B4
  obtain ⟨c30, c31, -, -⟩ := blk2 B3
  have BB4 := Lib.hid B4; clear B3 B4 hE
  go_wp2_with (fail)
  refine (linearOf_yes _ b0 b1 b2 b3 l _ (HT.out.ext (E1.out.alloc _)) HY.out).mono ?_
  rintro e W2 ⟨rfl, hE⟩
  have E2 : Hid (Ext w W2) := (E1.out.alloc _).trans hE
  have B4 := hE.blk (g := w.heap.size + 1 + 1) (o := .cells #[.slice none 0 0, .int .i64 0] 27 (0, 0)) ((Below.heap_alloc _ _ _ L4).trans BB4.out)
  have B6 := hE.blk (g := W1.heap.size) (o := .cells #[.int .i64 a0, .int .i64 a1, .int .i64 a2, .int .i64 a3, .int .i64 k] 56 (0, 0)) (heap_alloc_new _ _)
  have L4' := lt_of_block B4
  have L6 := lt_of_block B6
  obtain ⟨c60, c61, c62, c63, c64, -⟩ := blk5 B6
  clear BB4 L4 L3 c30 c31 hE B6
  have BB4 := Lib.hid B4; clear B4
  go_wp2_with (fail)
  refine (plus_any a0 a1 a2 a3 k b0 b1 b2 b3 l _ (by unfold bd; omega) (by unfold bd; omega) (by unfold bd; omega) (by unfold bd; omega) (by unfold bd; omega) (by unfold bd; omega) (by unfold bd; omega) (by unfold bd; omega) (by unfold bd; omega) (by unfold bd; omega)).mono ?_
  rintro e W3 ⟨rfl, hE⟩
  have E3 : Hid (Ext w W3) := (E2.out.alloc _).trans hE
  have B4 := hE.blk (g := w.heap.size + 1 + 1) (o := .cells #[.slice none 0 0, .int .i64 0] 27 (0, 0)) ((Below.heap_alloc _ _ _ L4').trans BB4.out)
  clear BB4 L4' L6 c60 c61 c62 c63 c64 hE
  have BB4 := Lib.hid B4; clear B4
  go_wp2_with (fail)
  refine (affine_any (a0 + b0) (a1 + b1) (a2 + b2) (a3 + b3) (k + l) _).mono ?_
  rw [HR.out]
  rintro e W4 ⟨⟨p4, c4, rfl, hv⟩, hE⟩
  have E4 : Hid (Ext w W4) := E3.out.trans hE
  obtain ⟨d0, d1, f0, f1⟩ := blk2 (hE.blk BB4.out)
  have hlt := lt_of_block BB4.out
  have HV := Lib.hid hv
  clear hE BB4 hv
  dsimp only at HV
  go_wp2
  refine bodyPost_ret (v := .tuple #[.agg #[.slice p4 r1.length c4, .int .i64 r2], .bool r3]) (by simp [results, Tryd.results19, go_sem, d0, d1]) rfl ⟨⟨p4, c4, rfl, IntsOwn.weak (B := w.heap.size + 1 + 1 + 1) ?_ (by omega)⟩, ?_⟩
  · exact ((HV.out.weak (B' := w.heap.size + 1 + 1 + 1) (by omega)).setAt (by omega) _).setAt (by omega) _
  · exact (E4.out.setAt (by omega) _).setAt (by omega) _

/-- One of the two is not valid. -/
theorem addR_no {xs ys : List Int} {k l : Int} (h : affValidB xs k = false ∨ affValidB ys l = false) : addR xs k ys l = ([], 0, false) := by
  unfold addR; rw [if_neg]; rintro ⟨h1, h2⟩; rcases h with h | h
  · rw [h] at h1; cases h1
  · rw [h] at h2; cases h2

/-- linearOf, whatever the expression. -/
def linR (xs : List Int) (k : Int) : Int × Int × Int × Int × Int × Bool := if affValidB xs k = true then (xs.getD 0 0, xs.getD 1 0, xs.getD 2 0, xs.getD 3 0, k, true) else (0, 0, 0, 0, 0, false)
theorem linearOf_any (s : Value) (xs : List Int) (k : Int) (w : World) (hs : IntsAt w s xs) :
    Calls Tryd.prog 30 #[.agg #[s, .int .i64 k]] w fun e w' => (∃ a b c d m, e = .returned (.tuple #[.agg #[.int .i64 a, .int .i64 b, .int .i64 c, .int .i64 d, .int .i64 m], .bool (affValidB xs k)]) ∧ (affValidB xs k = true → xs = [a, b, c, d] ∧ m = k)) ∧ Ext w w' := by
  cases hv : affValidB xs k with
  | true =>
    obtain ⟨a, b, c, d, rfl, _⟩ := valid_four hv
    refine (linearOf_yes s a b c d k w hs hv).mono ?_
    rintro e w' ⟨rfl, hE⟩
    exact ⟨⟨a, b, c, d, k, rfl, fun _ => ⟨rfl, rfl⟩⟩, hE⟩
  | false =>
    refine (linearOf_no s xs k w hs hv).mono ?_
    rintro e w' ⟨rfl, hE⟩
    exact ⟨⟨0, 0, 0, 0, 0, rfl, fun h => by cases h⟩, hE⟩

set_option maxHeartbeats 1000000 in
theorem AddAffine_no (s t : Value) (xs ys : List Int) (k l : Int) (w : World) (hs : IntsAt w s xs) (ht : IntsAt w t ys) (h : affValidB xs k = false ∨ affValidB ys l = false) :
    Calls Tryd.prog 19 #[.agg #[s, .int .i64 k], .agg #[t, .int .i64 l]] w fun e w' => AffRet w.heap.size w' e (addR xs k ys l) ∧ Ext w w' := by
  rw [addR_no h]
  have HS := Lib.hid hs; have HT := Lib.hid ht; clear hs ht
  obtain ⟨p, cp, rfl, -, -⟩ := HS.out
  obtain ⟨q, cq, rfl, -, -⟩ := HT.out
  go_enter Tryd.func19, Tryd.ntmps19
  go_wp2_with (fail)
  refine (linearOf_any _ xs k _ (HS.out.ext ((((Ext.refl w).alloc _).alloc _).alloc _))).mono ?_
  rintro e W1 ⟨⟨a0, a1, a2, a3, am, rfl, -⟩, hE⟩
  have E1 : Hid (Ext w W1) := ((((Ext.refl w).alloc _).alloc _).alloc _).trans hE
  have B3 := hE.blk (g := w.heap.size + 1) (o := .cells #[.slice q ys.length cq, .int .i64 l] 27 (0, 0)) (blk_old (blk_at (by simp)))
  have B4 := hE.blk (g := w.heap.size + 1 + 1) (o := .cells #[.slice none 0 0, .int .i64 0] 27 (0, 0)) (blk_at (by simp))
  have L3 := lt_of_block B3
  have L4 := lt_of_block B4
  obtain ⟨c30, c31, -, -⟩ := blk2 B3
  have BB4 := Lib.hid B4; clear B3 B4 hE
  go_wp2_with (fail)
  refine (linearOf_any _ ys l _ (HT.out.ext (E1.out.alloc _))).mono ?_
  rintro e W2 ⟨⟨b0, b1, b2, b3, bm, rfl, -⟩, hE⟩
  have E2 : Hid (Ext w W2) := (E1.out.alloc _).trans hE
  have B4 := hE.blk (g := w.heap.size + 1 + 1) (o := .cells #[.slice none 0 0, .int .i64 0] 27 (0, 0)) ((Below.heap_alloc _ _ _ L4).trans BB4.out)
  have L4' := lt_of_block B4
  obtain ⟨d0, d1, f0, f1⟩ := blk2 B4
  clear BB4 L4 L3 c30 c31 hE B4
  cases hx : affValidB xs k with
  | false =>
    go_wp2
    exact bodyPost_ret (v := .tuple #[.agg #[.slice none 0 0, .int .i64 0], .bool false]) (by simp [results, Tryd.results19, go_sem, d0, d1, L4']) rfl ⟨AffRet.none _ _, ((E2.out.setAt (by omega) _).setAt (by omega) _).alloc _⟩
  | true =>
    have hy : affValidB ys l = false := by
      rcases h with h | h
      · rw [hx] at h; cases h
      · exact h
    rw [hy]
    clear h hx
    go_wp2
    exact bodyPost_ret (v := .tuple #[.agg #[.slice none 0 0, .int .i64 0], .bool false]) (by simp [results, Tryd.results19, go_sem, d0, d1, L4']) rfl ⟨AffRet.none _ _, ((E2.out.setAt (by omega) _).setAt (by omega) _).alloc _⟩
end Go.Proofs.YtcpbfefgjpimiaaDoor
