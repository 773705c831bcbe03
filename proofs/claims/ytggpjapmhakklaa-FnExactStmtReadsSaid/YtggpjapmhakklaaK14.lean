/- The texts A5 A6, joined. No statement is proved here. -/
import Derived.Test.YtggpjapmhakklaaK43
/- Contracts: copies of lists, linear expressions back to affine ones. -/
namespace Go.Proofs.Ytggpjapmhakklaa
open Go.RowKit

theorem underSliceInt : Try.prog.underlying 22 = some (.slice 3) := by kernel_rfl

set_option maxHeartbeats 1000000 in
theorem clone_any (ad : Addr) (n c : Nat) (xs : List Int) (w : World) (hl : xs.length = n) (hs : ∀ i x, xs[i]? = some x → w.cell? (ad.add i) = some (.int .i64 x)) (hn : n ≤ 1048576) (h0 : 0 < n) :
    Calls Try.prog 42 #[.slice (some ad) n c] w fun e w' => ∃ p c, e = .returned (.slice p n c) ∧ IntsOwn w.heap.size w' (.slice p n c) xs ∧ Ext w w' := by
  obtain ⟨i0, hi, hz0, hz1, hz2⟩ := info_parts infoInt
  have HS := Lib.hid hs; clear hs
  have HL := Lib.hid hl; clear hl
  have hnil : ∀ (w' : World), Sem.run Try.prog (binOp .eql 22 (.slice (some ad) n c) (.slice none 0 0)) w' = .ok (.bool false) w' := by
    intro w'
    have h : ∀ d : Nat, (Op.equalIn (d + 1) 22 (.slice (some ad) n c) (.slice none 0 0)).run Try.prog w' = .ok false w' := fun d => by
      simp [Op.equalIn, run_underlying underSliceInt]
    simp [binOp, Op.equal, Op.maxDepth, h 9999]
  go_enter Try.func42, Try.ntmps42
  go_wp2_with (at_builtin; refine wpList_append_own _ rfl (.tmp 5) (.tmp 6) 22 rfl w.heap.size 3 i0 (.int .i64 0) 1 8 Try.underlying22 hi hz0 hz1 hz2 rfl (by decide) (.slice (some ⟨w.heap.size, 0, none⟩) 0 0) 0 [] rfl (World.ownsRow_made w #[] 0 (Nat.le_refl _) (Nat.zero_le _) rfl) ad n c (xs.map (Value.int .i64)) rfl ?c0 ?c1 ?c2 ?c3 ?c4 ?c5 ?_)
  case c0 => rw [List.length_map, HL.out, Nat.mul_one]
  case c1 =>
    intro j u hu
    rw [List.getElem?_map] at hu
    obtain ⟨x, hx, rfl⟩ := Option.map_eq_some_iff.1 hu
    exact ((Ext.refl w).alloc _).keep (HS.out j x hx)
  case c2 => exact ints_oneCell _ _
  case c3 => unfold maxLen; omega
  case c4 => omega
  case c5 => simp
  intro v' w1 hown hg hnn
  have hE : Ext w w1 := ((Ext.refl w).alloc _).grown hg (fun k h => by cases h; exact Nat.le_refl _)
  obtain ⟨p, cc, rfl⟩ : ∃ p cc, v' = .slice p n cc := by
    rcases hown.2 with ⟨h, hz⟩ | ⟨g, cap, cur, h, _⟩
    · omega
    · exact ⟨_, _, h⟩
  have HO := Lib.hid hown; clear hown
  go_wp2
  go_ret
  exact ⟨_, _, rfl, IntsOwn.mk HO.out HL.out, hE⟩

theorem blk_at {w : World} {o : Obj} {g : Nat} (h : g = w.heap.size) : (w.alloc o).heap[g]? = some o := by subst h; exact heap_alloc_new w o
theorem blk_old {w : World} {o o' : Obj} {g : Nat} (h : w.heap[g]? = some o') : (w.alloc o).heap[g]? = some o' := (Below.heap_alloc _ _ _ (lt_of_block h)).trans h
theorem Ext.blk {a b : World} {g : Nat} {o : Obj} (h : Ext a b) (hg : a.heap[g]? = some o) : b.heap[g]? = some o := (h.block _ (lt_of_block hg)).trans hg
theorem blk2 {W : World} {g : Nat} {a b : Value} {t : TypeId} (h : W.heap[g]? = some (.cells #[a, b] t (0, 0))) :
    W.cell? ⟨g, 0, none⟩ = some a ∧ W.cell? ⟨g, 1, none⟩ = some b ∧ W.frozen? ⟨g, 0, none⟩ = false ∧ W.frozen? ⟨g, 1, none⟩ = false := by
  simp [World.cell?, World.frozen?, h]
theorem blk2_set {W : World} {g : Nat} {a b c d : Value} {t : TypeId} (h : W.heap[g]? = some (.cells #[a, b] t (0, 0))) :
    ((W.setCell ⟨g, 0, none⟩ c).setCell ⟨g, 1, none⟩ d).heap[g]? = some (.cells #[c, d] t (0, 0)) := by
  have h1 := heap_setCell_same W g 0 #[a, b] t c h
  have h2 := heap_setCell_same _ g 1 _ t d h1
  simpa using h2

theorem cells4 {W : World} {g : Nat} {a b c d : Int} (h0 : W.cell? ⟨g, 0, none⟩ = some (.int .i64 a)) (h1 : W.cell? ⟨g, 1, none⟩ = some (.int .i64 b)) (h2 : W.cell? ⟨g, 2, none⟩ = some (.int .i64 c)) (h3 : W.cell? ⟨g, 3, none⟩ = some (.int .i64 d)) :
    ∀ i x, [a, b, c, d][i]? = some x → W.cell? ((⟨g, 0, none⟩ : Addr).add i) = some (.int .i64 x) := by
  intro i x hx
  rw [Addr.add_lit]
  match i, hx with
  | 0, hx => simp at hx; subst hx; exact h0
  | 1, hx => simp at hx; subst hx; exact h1
  | 2, hx => simp at hx; subst hx; exact h2
  | 3, hx => simp at hx; subst hx; exact h3

set_option maxHeartbeats 1000000 in
theorem affine_yes (a b c d k : Int) (w : World) (hv : affValidB [a, b, c, d] k = true) :
    Calls Try.prog 103 #[.agg #[.int .i64 a, .int .i64 b, .int .i64 c, .int .i64 d, .int .i64 k]] w fun e w' => (∃ p cc, e = .returned (.tuple #[.agg #[.slice p 4 cc, .int .i64 k], .bool true]) ∧ IntsOwn w.heap.size w' (.slice p 4 cc) [a, b, c, d]) ∧ Ext w w' := by
  have HV := Lib.hid hv; clear hv
  go_enter Try.func103, Try.ntmps103
  go_wp2_with (fail)
  have E0 : Hid (Ext w ((w.alloc (.cells #[.int .i64 a, .int .i64 b, .int .i64 c, .int .i64 d, .int .i64 k] 157)).alloc (.cells #[.slice none 0 0, .int .i64 0] 45))) := ((Ext.refl w).alloc _).alloc _
  have y0 : ((w.alloc (.cells #[.int .i64 a, .int .i64 b, .int .i64 c, .int .i64 d, .int .i64 k] 157)).alloc (.cells #[.slice none 0 0, .int .i64 0] 45)).heap[w.heap.size]? = some (.cells #[.int .i64 a, .int .i64 b, .int .i64 c, .int .i64 d, .int .i64 k] 157 (0, 0)) := (Below.heap_alloc _ _ _ (by simp)).trans (heap_alloc_new w _)
  have y1 : ((w.alloc (.cells #[.int .i64 a, .int .i64 b, .int .i64 c, .int .i64 d, .int .i64 k] 157)).alloc (.cells #[.slice none 0 0, .int .i64 0] 45)).heap[w.heap.size + 1]? = some (.cells #[.slice none 0 0, .int .i64 0] 45 (0, 0)) := by
    rw [show w.heap.size + 1 = (w.alloc (.cells #[.int .i64 a, .int .i64 b, .int .i64 c, .int .i64 d, .int .i64 k] 157)).heap.size from by simp]
    exact heap_alloc_new _ _
  generalize (w.alloc (.cells #[.int .i64 a, .int .i64 b, .int .i64 c, .int .i64 d, .int .i64 k] 157)).alloc (.cells #[.slice none 0 0, .int .i64 0] 45) = W0 at *
  generalize hg0 : w.heap.size = g0 at *
  have HG0 := Lib.hid hg0; clear hg0
  have Y1 := Lib.hid y1; clear y1
  obtain ⟨x0, x1, x2, x3, x4, _⟩ := blk5 y0
  clear y0
  have hlt0 : g0 + 1 < W0.heap.size := lt_of_block Y1.out
  have xd0 := (Ext.refl W0).drew.keep x0
  have xd1 := (Ext.refl W0).drew.keep x1
  have xd2 := (Ext.refl W0).drew.keep x2
  have xd3 := (Ext.refl W0).drew.keep x3
  have z0 := ((Ext.refl W0).alloc (.cells #[.slice none 0 0, .int .i64 0] 45)).drew.keep x0
  have z1 := ((Ext.refl W0).alloc (.cells #[.slice none 0 0, .int .i64 0] 45)).drew.keep x1
  have z2 := ((Ext.refl W0).alloc (.cells #[.slice none 0 0, .int .i64 0] 45)).drew.keep x2
  have z3 := ((Ext.refl W0).alloc (.cells #[.slice none 0 0, .int .i64 0] 45)).drew.keep x3
  have z4 := ((Ext.refl W0).alloc (.cells #[.slice none 0 0, .int .i64 0] 45)).drew.keep x4
  go_region_held3 (fun W => W.cell? ⟨g0, 0, none⟩ = some (.int .i64 a) ∧ W.cell? ⟨g0, 1, none⟩ = some (.int .i64 b) ∧ W.cell? ⟨g0, 2, none⟩ = some (.int .i64 c) ∧ W.cell? ⟨g0, 3, none⟩ = some (.int .i64 d) ∧ W.cell? ⟨g0, 4, none⟩ = some (.int .i64 k))
    (first | exact ⟨x0, x1, x2, x3, x4⟩ | exact ⟨z0, z1, z2, z3, z4⟩ | exact ⟨hEx.keep x0, hEx.keep x1, hEx.keep x2, hEx.keep x3, hEx.keep x4⟩ | exact ⟨hEy.keep x0, hEy.keep x1, hEy.keep x2, hEy.keep x3, hEy.keep x4⟩ | exact ⟨hEz.keep x0, hEz.keep x1, hEz.keep x2, hEz.keep x3, hEz.keep x4⟩ | fail)
    (first
      | (go_at_call 42; (with_reducible refine (clone_any ⟨g0, 0, none⟩ 4 4 [a, b, c, d] W0.drew rfl (cells4 xd0 xd1 xd2 xd3) (by decide) (by decide)).mono ?_); rintro e w1 ⟨p, cc, rfl, hv, hE⟩; have hEx : Ext W0 w1 := (Ext.refl W0).drew.trans hE; have hEy := hEx.alloc (.cells #[.slice none 0 0, .int .i64 0] 45); have hEz := hEx.alloc (.cells #[.slice p 4 cc, .int .i64 k] 45))
      | (go_at_call 42; (with_reducible refine (clone_any ⟨g0, 0, none⟩ 4 4 [a, b, c, d] _ rfl (cells4 z0 z1 z2 z3) (by decide) (by decide)).mono ?_); rintro e w1 ⟨p, cc, rfl, hv, hE⟩; have hEx : Ext W0 w1 := ((Ext.refl W0).alloc _).drew.trans hE; have q0 := hE.keep (new0 W0 _ _ _); have q1 := hE.keep (new1 W0 _ _ _ _); have f0 : w1.frozen? ⟨W0.heap.size, 0, none⟩ = false := (hE.cells.2 _ _ (by simp)).trans (by simp [go_sem]); have f1 : w1.frozen? ⟨W0.heap.size, 1, none⟩ = false := (hE.cells.2 _ _ (by simp)).trans (by simp [go_sem]); have hEy := ((hEx.setCell (p := ⟨W0.heap.size, 0, none⟩) (Nat.le_refl _) (.slice p 4 cc)).setCell (p := ⟨W0.heap.size, 1, none⟩) (Nat.le_refl _) (.int .i64 k))))
  · have y4 : (w1.alloc (.cells #[.slice p 4 cc, .int .i64 k] 45)).heap[w1.heap.size]? = some (.cells #[.slice p 4 cc, .int .i64 k] 45 (0, 0)) := heap_alloc_new w1 _
    have hv2 : IntsOwn W0.heap.size (w1.alloc (.cells #[.slice p 4 cc, .int .i64 k] 45)) (.slice p 4 cc) [a, b, c, d] := (hv.weak (Nat.le_refl _)).ext ((Ext.refl w1).alloc _)
    have hv3 := hv2.weak (B' := g0 + 2) (by omega)
    have Y4 := Lib.hid y4; have HV2 := Lib.hid hv3; have EZ := Lib.hid hEz
    clear y4 hv2 hv3 hEx hEy hEz hE hv
    generalize w1.alloc (.cells #[.slice p 4 cc, .int .i64 k] 45) = W4 at *
    generalize w1.heap.size = g4 at *
    have y1 := EZ.out.blk Y1.out
    have hlt : g0 + 1 < W4.heap.size := lt_of_block y1
    obtain ⟨r0, r1, fr0, fr1⟩ := blk2 y1
    obtain ⟨q0, q1, _⟩ := blk2 Y4.out
    go_wp2_with (fail)
    refine (AffineValid_any _ [a, b, c, d] k _ HV2.out.at).mono ?_
    rw [HV.out]
    rintro e W5 ⟨rfl, hE5⟩
    obtain ⟨r0', r1', fr0', fr1'⟩ := blk2 (hE5.blk y1)
    obtain ⟨q0', q1', _⟩ := blk2 (hE5.blk Y4.out)
    have HE5 := Lib.hid hE5
    clear y1 r0 r1 fr0 fr1 q0 q1 hE5
    go_wp2
    exact bodyPost_ret (v := .tuple #[.agg #[.slice p 4 cc, .int .i64 k], .bool true]) (by simp [results, Try.results103, go_sem, r0', r1']) rfl ⟨⟨p, cc, rfl, IntsOwn.weak (B := g0 + 2) (((HV2.out.ext HE5.out).setOld (by simp) _).setOld (by simp) _) (by rw [HG0.out]; omega)⟩, ((E0.out.trans (EZ.out.trans HE5.out)).setCell (by rw [HG0.out]; simp) _).setCell (by rw [HG0.out]; simp) _⟩
  · have y4 : ((w1.setCell ⟨W0.heap.size, 0, none⟩ (.slice p 4 cc)).setCell ⟨W0.heap.size, 1, none⟩ (.int .i64 k)).heap[W0.heap.size]? = some (.cells #[.slice p 4 cc, .int .i64 k] 45 (0, 0)) := blk2_set (hE.blk (heap_alloc_new W0 _))
    have hv2 : IntsOwn W0.heap.size ((w1.setCell ⟨W0.heap.size, 0, none⟩ (.slice p 4 cc)).setCell ⟨W0.heap.size, 1, none⟩ (.int .i64 k)) (.slice p 4 cc) [a, b, c, d] := IntsOwn.weak (B := W0.heap.size + 1) (((hv.weak (by simp [World.drew])).setOld (by simp) _).setOld (by simp) _) (by omega)
    have hv3 := hv2.weak (B' := g0 + 2) (by omega)
    have Y4 := Lib.hid y4; have HV2 := Lib.hid hv3; have EZ := Lib.hid hEy
    clear y4 hv2 hv3 hEx hEy hE hv q0 q1 f0 f1
    generalize (w1.setCell ⟨W0.heap.size, 0, none⟩ (.slice p 4 cc)).setCell ⟨W0.heap.size, 1, none⟩ (.int .i64 k) = W4 at *
    generalize W0.heap.size = g4 at *
    have y1 := EZ.out.blk Y1.out
    have hlt : g0 + 1 < W4.heap.size := lt_of_block y1
    obtain ⟨r0, r1, fr0, fr1⟩ := blk2 y1
    obtain ⟨q0, q1, _⟩ := blk2 Y4.out
    go_wp2_with (fail)
    refine (AffineValid_any _ [a, b, c, d] k _ HV2.out.at).mono ?_
    rw [HV.out]
    rintro e W5 ⟨rfl, hE5⟩
    obtain ⟨r0', r1', fr0', fr1'⟩ := blk2 (hE5.blk y1)
    obtain ⟨q0', q1', _⟩ := blk2 (hE5.blk Y4.out)
    have HE5 := Lib.hid hE5
    clear y1 r0 r1 fr0 fr1 q0 q1 hE5
    go_wp2
    exact bodyPost_ret (v := .tuple #[.agg #[.slice p 4 cc, .int .i64 k], .bool true]) (by simp [results, Try.results103, go_sem, r0', r1']) rfl ⟨⟨p, cc, rfl, IntsOwn.weak (B := g0 + 2) (((HV2.out.ext HE5.out).setOld (by simp) _).setOld (by simp) _) (by rw [HG0.out]; omega)⟩, ((E0.out.trans (EZ.out.trans HE5.out)).setCell (by rw [HG0.out]; simp) _).setCell (by rw [HG0.out]; simp) _⟩


end Go.Proofs.Ytggpjapmhakklaa

/- Contracts: sums, multiples, substitutions. -/
namespace Go.Proofs.Ytggpjapmhakklaa
open Go.RowKit

/-- An affine expression and a bool are handed back, the expression in new memory. -/
def AffRet (B : Nat) (w : World) (e : Ending) (r : List Int × Int × Bool) : Prop :=
  ∃ p cc, e = .returned (.tuple #[.agg #[.slice p r.1.length cc, .int .i64 r.2.1], .bool r.2.2]) ∧ IntsOwn B w (.slice p r.1.length cc) r.1

theorem AffRet.none (B : Nat) (w : World) : AffRet B w (.returned (.tuple #[.agg #[.slice none 0 0, .int .i64 0], .bool false])) ([], 0, false) :=
  ⟨Option.none, 0, rfl, World.ownsRow_nil _ _ _ _⟩
theorem AffRet.weak {B B' : Nat} {w : World} {e : Ending} {r : List Int × Int × Bool} (h : AffRet B w e r) (hB : B' ≤ B) : AffRet B' w e r := by
  obtain ⟨p, cc, h1, h2⟩ := h
  exact ⟨p, cc, h1, h2.weak hB⟩

end Go.Proofs.Ytggpjapmhakklaa
