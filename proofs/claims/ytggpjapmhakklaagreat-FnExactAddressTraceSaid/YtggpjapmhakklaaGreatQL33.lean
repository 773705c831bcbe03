/- The texts N0 A4 A5 A6 A10 A11 A12, joined. No statement is proved here. -/
import Derived.Test.YtggpjapmhakklaaGreatQL31
import Derived.Handy
import Derived.Deep.RegionHeld3
import Derived.Deep.AppendLies
import Derived.Deep.RegionLaw
set_option maxRecDepth 100000
set_option maxHeartbeats 8000000
set_option linter.unusedVariables false
set_option linter.unusedSimpArgs false
namespace Go.Proofs.YtggpjapmhakklaaGreat
open Go.Lib (hid)
open Go.RowKit
def PairsAt {α : Type} (R : World → Value → Value → α → Prop) (w : World) (v : Value) (xs : List α) : Prop :=
 ∃ p c, v = .slice p xs.length c ∧ xs.length ≤ 9223372036854775807 ∧ ∀ i x, xs[i]? = some x → ∃ b off u0 u1, p = some ⟨b, off, none⟩ ∧ w.cell? ⟨b, off + i * 2, none⟩ = some u0 ∧ w.cell? ⟨b, off + i * 2 + 1, none⟩ = some u1 ∧ b < w.heap.size ∧ R w u0 u1 x
theorem PairsAt.ext {α : Type} {R : World → Value → Value → α → Prop} (hR : ∀ {w w' u0 u1 x}, R w u0 u1 x → Ext w w' → R w' u0 u1 x) {w w' : World} {v : Value} {xs : List α} (h : PairsAt R w v xs) (hb : Ext w w') : PairsAt R w' v xs := by
 obtain ⟨p, c, hv, hm, hc⟩ := h
 refine ⟨p, c, hv, hm, fun i x hi => ?_⟩
 obtain ⟨b, off, u0, u1, hp, h0, h1, hlt, hr⟩ := hc i x hi
 exact ⟨b, off, u0, u1, hp, hb.keep h0, hb.keep h1, Nat.lt_of_lt_of_le hlt hb.size_le, hR hr hb⟩
abbrev Aff := List Int × Int
def AffR (w : World) (u0 u1 : Value) (a : Aff) : Prop := IntsAt w u0 a.1 ∧ u1 = .int .i64 a.2
theorem AffR.ext {w w' : World} {u0 u1 : Value} {a : Aff} (h : AffR w u0 u1 a) (hb : Ext w w') : AffR w' u0 u1 a := ⟨h.1.ext hb, h.2⟩
def AffsAt : World → Value → List Aff → Prop := PairsAt AffR
theorem AffsAt.ext {w w' : World} {v : Value} {xs : List Aff} (h : AffsAt w v xs) (hb : Ext w w') : AffsAt w' v xs := PairsAt.ext (R := AffR) (fun h hb => h.ext hb) h hb
abbrev Lp := List Aff × List Aff
def LoopR (w : World) (u0 u1 : Value) (a : Lp) : Prop := AffsAt w u0 a.1 ∧ AffsAt w u1 a.2
theorem LoopR.ext {w w' : World} {u0 u1 : Value} {a : Lp} (h : LoopR w u0 u1 a) (hb : Ext w w') : LoopR w' u0 u1 a := ⟨h.1.ext hb, h.2.ext hb⟩
def LoopsAt : World → Value → List Lp → Prop := PairsAt LoopR
theorem LoopsAt.ext {w w' : World} {v : Value} {xs : List Lp} (h : LoopsAt w v xs) (hb : Ext w w') : LoopsAt w' v xs := PairsAt.ext (R := LoopR) (fun h hb => h.ext hb) h hb
theorem AffsAt.form {w : World} {v : Value} {xs : List Aff} (h : AffsAt w v xs) : ∃ p c, v = .slice p xs.length c ∧ xs.length ≤ 9223372036854775807 := by
 obtain ⟨p, c, hv, hm, _⟩ := h; exact ⟨p, c, hv, hm⟩
theorem LoopsAt.form {w : World} {v : Value} {xs : List Lp} (h : LoopsAt w v xs) : ∃ p c, v = .slice p xs.length c ∧ xs.length ≤ 9223372036854775807 := by
 obtain ⟨p, c, hv, hm, _⟩ := h; exact ⟨p, c, hv, hm⟩
theorem AffsAt.elem {w : World} {p : Option Addr} {n c : Nat} {xs : List Aff} (h : AffsAt w (.slice p n c) xs) {i : Nat} {x : Aff} (hi : xs[i]? = some x) :
  ∃ b off q m, p = some ⟨b, off, none⟩ ∧ w.cell? ⟨b, off + i * 2, none⟩ = some (.slice q x.1.length m) ∧ w.cell? ⟨b, off + i * 2 + 1, none⟩ = some (.int .i64 x.2) ∧ b < w.heap.size ∧ IntsAt w (.slice q x.1.length m) x.1 := by
 obtain ⟨p', c', hv, hm, hc⟩ := h
 cases hv
 obtain ⟨b, off, u0, u1, hp, h0, h1, hlt, hr, rfl⟩ := hc i x hi
 obtain ⟨q, m, rfl, _⟩ := id hr
 exact ⟨b, off, q, m, hp, h0, h1, hlt, hr⟩
theorem LoopsAt.elem {w : World} {p : Option Addr} {n c : Nat} {xs : List Lp} (h : LoopsAt w (.slice p n c) xs) {i : Nat} {x : Lp} (hi : xs[i]? = some x) :
  ∃ b off q m q' m', p = some ⟨b, off, none⟩ ∧ w.cell? ⟨b, off + i * 2, none⟩ = some (.slice q x.1.length m) ∧ w.cell? ⟨b, off + i * 2 + 1, none⟩ = some (.slice q' x.2.length m') ∧ b < w.heap.size ∧ AffsAt w (.slice q x.1.length m) x.1 ∧ AffsAt w (.slice q' x.2.length m') x.2 := by
 obtain ⟨p', c', hv, hm, hc⟩ := h
 cases hv
 obtain ⟨b, off, u0, u1, hp, h0, h1, hlt, hr, hr'⟩ := hc i x hi
 obtain ⟨q, m, rfl, _⟩ := id hr
 obtain ⟨q', m', rfl, _⟩ := id hr'
 exact ⟨b, off, q, m, q', m', hp, h0, h1, hlt, hr, hr'⟩
theorem PairsAt.own {α : Type} {R : World → Value → Value → α → Prop} {B : Nat} {w : World} {e : TypeId} {g n cap : Nat} {vs : List Value} {xs : List α} (h : w.ownsRow B e 2 (.slice (some ⟨g, 0, none⟩) n cap) n vs) (hn : xs.length = n)
  (hr : ∀ i x, xs[i]? = some x → ∃ u0 u1, vs[i * 2]? = some u0 ∧ vs[i * 2 + 1]? = some u1 ∧ R w u0 u1 x) : PairsAt R w (.slice (some ⟨g, 0, none⟩) n cap) xs := by
 have hm : n ≤ 9223372036854775807 := by
  rcases h.2 with ⟨_, h0⟩ | ⟨_, cap', _, hv, _, _, h1, h2, _⟩
  ·omega
  ·unfold maxLen at h2; cases hv; omega
 refine ⟨_, _, by rw [hn], by omega, fun i x hi => ?_⟩
 obtain ⟨u0, u1, h0, h1, hx⟩ := hr i x hi
 have hlt : i < n := by rw [← hn]; exact (List.getElem?_eq_some_iff.1 hi).1
 refine ⟨g, 0, u0, u1, rfl, ?_, ?_, (h.lt g rfl).2, hx⟩
 ·rw [Nat.zero_add, h.cellAt (i * 2) (by omega)]; exact h0
 ·rw [Nat.zero_add, h.cellAt (i * 2 + 1) (by omega)]; exact h1
theorem infoAff : (Tryz.prog.info? 98).map (fun i => (i.zero, i.size, i.bytes)) = some (some (.agg #[.slice none 0 0, .int .i64 0]), 2, 32) := by kernel_rfl
theorem infoLoop : (Tryz.prog.info? 182).map (fun i => (i.zero, i.size, i.bytes)) = some (some (.agg #[.slice none 0 0, .slice none 0 0]), 2, 48) := by kernel_rfl
end Go.Proofs.YtggpjapmhakklaaGreat
namespace Go.Proofs.YtggpjapmhakklaaGreat
open Go.Lib (hid)
open Go.RowKit
def bd (a : Int) : Prop := -1000000 ≤ a ∧ a ≤ 1000000
theorem four {xs : List Int} (h : xs.length = 4) : ∃ a b c d, xs = [a, b, c, d] := by
 match xs, h with
 | [a, b, c, d], _ => exact ⟨a, b, c, d, rfl⟩
theorem valid_four {xs : List Int} {k : Int} (h : affValidB xs k = true) : ∃ a b c d, xs = [a, b, c, d] ∧ (-9 ≤ a ∧ a ≤ 9) ∧ (-9 ≤ b ∧ b ≤ 9) ∧ (-9 ≤ c ∧ c ≤ 9) ∧ (-9 ≤ d ∧ d ≤ 9) ∧ (-99 ≤ k ∧ k ≤ 99) := by
 obtain ⟨a, b, c, d, rfl⟩ := four (affValidB_len h)
 simp only [affValidB, withinB, List.all_cons, List.all_nil, Bool.and_eq_true, decide_eq_true_eq, Bool.and_true] at h
 obtain ⟨_, ⟨h1, h2, h3, h4⟩, h5⟩ := h
 exact ⟨a, b, c, d, rfl, h1, h2, h3, h4, h5⟩
theorem IntsAt.four {w : World} {s : Value} {a b c d : Int} (h : IntsAt w s [a, b, c, d]) : ∃ bl off cap, s = .slice (some ⟨bl, off, none⟩) 4 cap ∧ w.cell? ⟨bl, off, none⟩ = some (.int .i64 a) ∧ w.cell? ⟨bl, off + 1, none⟩ = some (.int .i64 b) ∧ w.cell? ⟨bl, off + 2, none⟩ = some (.int .i64 c) ∧ w.cell? ⟨bl, off + 3, none⟩ = some (.int .i64 d) ∧ bl < w.heap.size := by
 obtain ⟨p, cap, rfl, hm, hc⟩ := h.get
 obtain ⟨bl, off, rfl, h0, hb⟩ := hc 0 a rfl
 have key : ∀ i x, [a, b, c, d][i]? = some x → w.cell? ⟨bl, off + i, none⟩ = some (.int .i64 x) := by
  intro i x hx
  obtain ⟨bl', off', e, h1, _⟩ := hc i x hx
  cases e
  exact h1
 exact ⟨bl, off, cap, rfl, key 0 a rfl, key 1 b rfl, key 2 c rfl, key 3 d rfl, hb⟩
theorem blk5 {W : World} {g : Nat} {a b c d k : Value} {t : TypeId} (h : W.heap[g]? = some (.cells #[a, b, c, d, k] t (0, 0))) :
  W.cell? ⟨g, 0, none⟩ = some a ∧ W.cell? ⟨g, 1, none⟩ = some b ∧ W.cell? ⟨g, 2, none⟩ = some c ∧ W.cell? ⟨g, 3, none⟩ = some d ∧ W.cell? ⟨g, 4, none⟩ = some k ∧
  W.frozen? ⟨g, 0, none⟩ = false ∧ W.frozen? ⟨g, 1, none⟩ = false ∧ W.frozen? ⟨g, 2, none⟩ = false ∧ W.frozen? ⟨g, 3, none⟩ = false ∧ W.frozen? ⟨g, 4, none⟩ = false := by
 simp [World.cell?, World.frozen?, h]
theorem linearOf_no (s : Value) (xs : List Int) (k : Int) (w : World) (hs : IntsAt w s xs) (hv : affValidB xs k = false) :
  Calls Tryz.prog 170 #[.agg #[s, .int .i64 k]] w fun e w' =>
   e = .returned (.tuple #[.agg #[.int .i64 0, .int .i64 0, .int .i64 0, .int .i64 0, .int .i64 0], .bool false]) ∧ Ext w w' := by
 obtain ⟨p, cc, rfl, hm, hc⟩ := id hs
 clear hc
 have HS := hid hs; clear hs
 have HV := hid hv; clear hv
 go_enter Tryz.func170, Tryz.ntmps170
 go_wp2_with (fail)
 refine (AffineValid_any _ xs k _ (HS.out.ext (((Ext.refl w).alloc _).alloc _))).mono ?_
 rw [HV.out]
 rintro e w1 ⟨rfl, hE⟩
 obtain ⟨hc1, hf1⟩ := hE.cells
 have hsz := hE.size_le
 have HE := hid hE; clear hE
 go_wp2
 refine bodyPost_ret (v := .tuple #[.agg #[.int .i64 0, .int .i64 0, .int .i64 0, .int .i64 0, .int .i64 0], .bool false]) (by simp [results, Tryz.results170, go_sem, hc1]) rfl ⟨rfl, ?_⟩
 repeat (refine Ext.setCell ?_ (by simp <;> omega) _)
 exact (((Ext.refl w).alloc _).alloc _).trans HE.out
theorem linearOf_yes (s : Value) (a b c d k : Int) (w : World) (hs : IntsAt w s [a, b, c, d]) (hv : affValidB [a, b, c, d] k = true) :
  Calls Tryz.prog 170 #[.agg #[s, .int .i64 k]] w fun e w' =>
   e = .returned (.tuple #[.agg #[.int .i64 a, .int .i64 b, .int .i64 c, .int .i64 d, .int .i64 k], .bool true]) ∧ Ext w w' := by
 obtain ⟨bl, off, cap, rfl, h0, h1, h2, h3, hbl⟩ := hs.four
 have HS := hid hs; clear hs
 have HV := hid hv; clear hv
 go_enter Tryz.func170, Tryz.ntmps170
 go_wp2_with (fail)
 refine (AffineValid_any _ [a, b, c, d] k _ (HS.out.ext (((Ext.refl w).alloc _).alloc _))).mono ?_
 rw [HV.out]
 rintro e w1 ⟨rfl, hE⟩
 obtain ⟨hc1, hf1⟩ := hE.cells
 have hsz := hE.size_le
 have E1 : Hid (Ext w w1) := (((Ext.refl w).alloc _).alloc _).trans hE
 replace h0 := E1.out.keep h0
 replace h1 := E1.out.keep h1
 replace h2 := E1.out.keep h2
 replace h3 := E1.out.keep h3
 have hbl1 : bl < w1.heap.size := World.block_lt_of_cell? w1 _ h0
 have hE' := hid hE
 clear hE
 have hcp : Sem.run Tryz.prog (Builtin.copy_ #[27, 27] 3 #[.slice (some ⟨w1.heap.size, 0, none⟩) 4 4, .slice (some ⟨bl, off, none⟩) 4 cap]) ((w1.alloc (.cells #[.int .i64 0, .int .i64 0, .int .i64 0, .int .i64 0, .int .i64 k] 230)).drew) = .ok (goInt 4) ((w1.alloc (.cells #[.int .i64 a, .int .i64 b, .int .i64 c, .int .i64 d, .int .i64 k] 230)).drew) := by
  refine (run_copy_cells _ _ _ _ 3 w1.heap.size 0 4 4 ⟨bl, off, none⟩ 4 cap [.int .i64 a, .int .i64 b, .int .i64 c, .int .i64 d] Tryz.underlying27 (by kernel_rfl) rfl ?_ ?_ ?_ ?_).trans (by simp [World.setCells, go_sem])
  ·intro j v hj
   match j, hj with
   | 0, hj => simp at hj; subst hj; simp [go_sem, hbl1, h0]
   | 1, hj => simp at hj; subst hj; simp [go_sem, hbl1, h1]
   | 2, hj => simp at hj; subst hj; simp [go_sem, hbl1, h2]
   | 3, hj => simp at hj; subst hj; simp [go_sem, hbl1, h3]
  ·intro j hj
   match j, hj with
   | 0, hj => simp [go_sem]
   | 1, hj => simp [go_sem]
   | 2, hj => simp [go_sem]
   | 3, hj => simp [go_sem]
  ·intro j hj
   simp [go_sem]
  ·simp [Value.oneCell']
 clear hbl
 have hlt : w.heap.size < w1.heap.size := by simp at hsz; omega
 have hlt1 : w.heap.size + 1 < w1.heap.size := by simp at hsz; omega
 go_wp2
 go_region
 have E2 : Hid (Ext w ((w1.alloc (.cells #[.int .i64 a, .int .i64 b, .int .i64 c, .int .i64 d, .int .i64 k] 230)).drew)) := (E1.out.alloc _).drew
 have y0 : ((w1.alloc (.cells #[.int .i64 a, .int .i64 b, .int .i64 c, .int .i64 d, .int .i64 k] 230)).drew).heap[w1.heap.size]? = some (.cells #[.int .i64 a, .int .i64 b, .int .i64 c, .int .i64 d, .int .i64 k] 230 (0, 0)) := heap_alloc_new w1 _
 have y1 : ((w1.alloc (.cells #[.int .i64 a, .int .i64 b, .int .i64 c, .int .i64 d, .int .i64 k] 230)).drew).heap[w.heap.size + 1]? = some (.cells #[.int .i64 0, .int .i64 0, .int .i64 0, .int .i64 0, .int .i64 0] 230 (0, 0)) := by
  refine (Below.heap_alloc w1 _ _ hlt1).trans ((hE'.out.block _ (by simp)).trans ?_)
  rw [show w.heap.size + 1 = (w.alloc (.cells #[.slice (some ⟨bl, off, none⟩) 4 cap, .int .i64 k] 98)).heap.size from by simp]
  exact heap_alloc_new _ _
 generalize (w1.alloc (.cells #[.int .i64 a, .int .i64 b, .int .i64 c, .int .i64 d, .int .i64 k] 230)).drew = W at *
 obtain ⟨x0, x1, x2, x3, x4, _⟩ := blk5 y0
 obtain ⟨z0, z1, z2, z3, z4, f0, f1, f2, f3, f4⟩ := blk5 y1
 clear hcp h0 h1 h2 h3 hc1 hf1 hsz y0 y1
 generalize w1.heap.size = g at *
 go_wp2
 refine bodyPost_ret (v := .tuple #[.agg #[.int .i64 a, .int .i64 b, .int .i64 c, .int .i64 d, .int .i64 k], .bool true]) (by simp [results, Tryz.results170, go_sem, z0, z1, z2, z3, z4]) rfl ⟨rfl, ?_⟩
 repeat (with_reducible refine Ext.setCell ?_ ?_ _; rotate_left; · simp <;> omega)
 exact E2.out
end Go.Proofs.YtggpjapmhakklaaGreat
namespace Go.Proofs.YtggpjapmhakklaaGreat
open Go.Lib (hid)
open Go.RowKit
theorem underSliceInt : Tryz.prog.underlying 27 = some (.slice 3) := by kernel_rfl
theorem blk_at {w : World} {o : Obj} {g : Nat} (h : g = w.heap.size) : (w.alloc o).heap[g]? = some o := by subst h; exact heap_alloc_new w o
theorem blk_old {w : World} {o o' : Obj} {g : Nat} (h : w.heap[g]? = some o') : (w.alloc o).heap[g]? = some o' := (Below.heap_alloc _ _ _ (lt_of_block h)).trans h
theorem Ext.blk {a b : World} {g : Nat} {o : Obj} (h : Ext a b) (hg : a.heap[g]? = some o) : b.heap[g]? = some o := (h.block _ (lt_of_block hg)).trans hg
theorem blk2 {W : World} {g : Nat} {a b : Value} {t : TypeId} (h : W.heap[g]? = some (.cells #[a, b] t (0, 0))) :
  W.cell? ⟨g, 0, none⟩ = some a ∧ W.cell? ⟨g, 1, none⟩ = some b ∧ W.frozen? ⟨g, 0, none⟩ = false ∧ W.frozen? ⟨g, 1, none⟩ = false := by
 simp [World.cell?, World.frozen?, h]
theorem blk2_set {W : World} {g : Nat} {a b c d : Value} {t : TypeId} (h : W.heap[g]? = some (.cells #[a, b] t (0, 0))) :
  ((W.setCell ⟨g, 0, none⟩ c).setCell ⟨g, 1, none⟩ d).heap[g]? = some (.cells #[c, d] t (0, 0)) := by
 have h1 := heap_setCell_same W g 0 #[a, b] t c h
 have h2 := heap_setCell_same _ g 1 _ t d h1
 simpa using h2
end Go.Proofs.YtggpjapmhakklaaGreat
namespace Go.Proofs.YtggpjapmhakklaaGreat
open Go.Lib (hid)
open Go.RowKit
def AffRet (B : Nat) (w : World) (e : Ending) (r : List Int × Int × Bool) : Prop :=
 ∃ p cc, e = .returned (.tuple #[.agg #[.slice p r.1.length cc, .int .i64 r.2.1], .bool r.2.2]) ∧ IntsOwn B w (.slice p r.1.length cc) r.1
theorem AffRet.none (B : Nat) (w : World) : AffRet B w (.returned (.tuple #[.agg #[.slice none 0 0, .int .i64 0], .bool false])) ([], 0, false) :=
 ⟨Option.none, 0, rfl, World.ownsRow_nil _ _ _ _⟩
theorem AffRet.weak {B B' : Nat} {w : World} {e : Ending} {r : List Int × Int × Bool} (h : AffRet B w e r) (hB : B' ≤ B) : AffRet B' w e r := by
 obtain ⟨p, cc, h1, h2⟩ := h
 exact ⟨p, cc, h1, h2.weak hB⟩
end Go.Proofs.YtggpjapmhakklaaGreat
namespace Go.Proofs.YtggpjapmhakklaaGreat
open Go.Lib (hid)
open Go.RowKit
end Go.Proofs.YtggpjapmhakklaaGreat
namespace Go.Proofs.YtggpjapmhakklaaGreat
open Go.Lib (hid)
open Go.RowKit
theorem IntsOwn.row {B n : Nat} {w : World} {v : Value} {xs : List Int} (h : IntsOwn B w v xs) (hn : xs.length = n) : w.ownsRow B 3 1 v n (xs.map (Value.int .i64)) := by
 unfold IntsOwn at h; rwa [hn] at h
theorem own_block_ge {B : Nat} {w : World} {v : Value} {xs : List Int} (h : IntsOwn B w v xs) {b : Nat} (hb : b < B) : some b ≠ v.ownBlock := by
 intro e
 have := (h.lt b e.symm).1
 omega
theorem IntsOwn.beside {B B' : Nat} {w w' : World} {v u : Value} {xs ys : List Int} (h : IntsOwn B w v xs) (hu : IntsOwn B' w u ys) (hv : ∀ b, v.ownBlock = some b → b < B') (hg : w.grownBy w' u.ownBlock) : IntsOwn B w' v xs := by
 refine World.ownsRow.kept h hg ?_
 cases hb : v.ownBlock with
 | none => exact .inl rfl
 | some b => exact .inr (own_block_ge hu (hv b hb))
theorem affEqB_self (xs : List Int) (c : Int) : affEqB xs c xs c = true := by simp [affEqB, eqB]
theorem IntsOwn.block_lt {B : Nat} {w : World} {v : Value} {xs : List Int} (h : IntsOwn B w v xs) : ∀ b, v.ownBlock = some b → b < w.heap.size := fun b hb => (h.lt b hb).2
end Go.Proofs.YtggpjapmhakklaaGreat
namespace Go.Proofs.YtggpjapmhakklaaGreat
open Go.Lib (hid)
open Go.RowKit
theorem cell_setAt {w : World} {g o b o' : Nat} (u : Value) (h : b ≠ g) : (w.setCell ⟨g, o, none⟩ u).cell? ⟨b, o', none⟩ = w.cell? ⟨b, o', none⟩ := World.cell?_of_block (Below.heap_setCell _ _ _ _ h)
theorem grownBy_blk {a b : World} {r : Option Nat} {g : Nat} {o : Obj} (h : a.grownBy b r) (hg : a.heap[g]? = some o) (hne : some g ≠ r) : b.heap[g]? = some o := (h.block _ (lt_of_block hg) hne).trans hg
theorem setCell_blk {a : World} {g g' o' : Nat} {o : Obj} (hg : a.heap[g]? = some o) (hne : g ≠ g') (u : Value) : (a.setCell ⟨g', o', none⟩ u).heap[g]? = some o := (Below.heap_setCell _ _ _ _ hne).trans hg
end Go.Proofs.YtggpjapmhakklaaGreat
