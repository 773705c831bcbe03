/- The texts R7, joined. No statement is proved here. -/
import Derived.RangeFuncNested
import Derived.RangeFuncBound
import Derived.RangeFuncCalls
import Derived.Test.YtccibfldadflkaaQV13
import Derived.Deep.DeepAppendRoom
import Derived.OwnWalkIn
import Derived.Shelf.Abstract
import Derived.RangeFuncStops
import Derived.TacticsInMore
import Derived.LoopNIn
import Derived.LoopIn
import Derived.Maps.AppendAt
import Derived.OrdersIn
import Derived.OrdersHeld
/- Ranges over functions: a law for an iterator and a consumer that are kept apart by their blocks. No statement is proved here. | The prefixes that the program's iterator yields. Under way: the deepest level. | The prefixes that the program's iterator yields: a level with loops below. Under way. | The prefixes that the program's iterator yields: every level. | Drawn regions inside a round of a range over a function; copies of points; rows of points kept by their blocks. No statement is proved here. -/
namespace Go.Proofs.Ytccibfldadflkaa
open Go.RowKit

/-- From W to W' no block that lay has turned but those of D. -/
structure Lv (D : Nat → Prop) (W W' : World) : Prop where
  os : W'.os = W.os
  tape : W'.tape = W.tape
  output : W'.output = W.output
  size : W.heap.size ≤ W'.heap.size
  block : ∀ k, k < W.heap.size → ¬ D k → W'.heap[k]? = W.heap[k]?
theorem Lv.refl (D : Nat → Prop) (W : World) : Lv D W W := ⟨rfl, rfl, rfl, Nat.le_refl _, fun _ _ _ => rfl⟩
theorem Lv.trans {D D' E : Nat → Prop} {A B C : World} (h : Lv D A B) (k : Lv D' B C) (hD : ∀ b, b < A.heap.size → D b → E b) (hD' : ∀ b, b < A.heap.size → D' b → E b) : Lv E A C :=
  ⟨k.os.trans h.os, k.tape.trans h.tape, k.output.trans h.output, Nat.le_trans h.size k.size, fun b hb hn => (k.block b (Nat.lt_of_lt_of_le hb h.size) (fun e => hn (hD' b hb e))).trans (h.block b hb (fun e => hn (hD b hb e)))⟩
theorem Lv.mono {D E : Nat → Prop} {A B : World} (h : Lv D A B) (hD : ∀ b, b < A.heap.size → D b → E b) : Lv E A B := h.trans (Lv.refl D B) hD (fun b hb e => hD b hb e)
theorem Lv.grown {D : Nat → Prop} {A B : World} {row : Option Nat} (h : A.grownBy B row) (hr : ∀ r, row = some r → r < A.heap.size → D r) : Lv D A B :=
  ⟨h.os, h.tape, h.output, h.size, fun b hb hn => h.block b hb (fun e => hn (hr b e.symm hb))⟩
theorem Lv.alloc (D : Nat → Prop) (W : World) (o : Obj) : Lv D W (W.alloc o) := Lv.grown (World.grownBy_alloc W o none) (fun _ e => by cases e)
theorem Lv.heap {D : Nat → Prop} {A B : World} {k : Nat} {o : Obj} (h : Lv D A B) (hk : A.heap[k]? = some o) (hn : ¬ D k) : B.heap[k]? = some o := (h.block k (Array.getElem?_eq_some_iff.1 hk).1 hn).trans hk

end Go.Proofs.Ytccibfldadflkaa

namespace Go.Proofs.Ytccibfldadflkaa
open Go.RowKit
attribute [local go_sem] Oper.semAt_some

/-- The block of a row of four ints begins with x. -/
def RowX (bp : Nat) (x : List Int) (V : World) : Prop := V.ownsRow 0 3 1 (.slice (some ⟨bp, 0, none⟩) x.length 4) x.length (x.map (Value.int .i64))
theorem RowX.lv {bp : Nat} {x : List Int} {V V' : World} {D : Nat → Prop} (h : RowX bp x V) (hv : Lv D V V') (hn : ¬ D bp) : RowX bp x V' := by
  refine ⟨h.1, ?_⟩
  rcases h.2 with hn' | ⟨g, cap, cur, e, hb, hg, r⟩
  · exact .inl hn'
  · cases e
    exact .inr ⟨bp, 4, cur, rfl, hb, hv.heap hg hn, r⟩
theorem RowX.block {bp : Nat} {x : List Int} {V : World} (h : RowX bp x V) : ∃ cs, V.heap[bp]? = some (.cells cs 3 (0, 0)) := by
  rcases h.2 with ⟨e, -⟩ | ⟨g, cap, cur, e, hb, hg, r⟩
  · cases e
  · cases e; exact ⟨cur, hg⟩
theorem Ext.lv {D : Nat → Prop} {A B : World} (h : Ext A B) : Lv D A B := ⟨h.os, h.tape, h.output, h.size, fun k hk _ => h.block k hk⟩
end Go.Proofs.Ytccibfldadflkaa

namespace Go.Proofs.Ytccibfldadflkaa
open Go.RowKit
attribute [local go_sem] Oper.semAt_some

theorem Lv.ext0 {D : Nat → Prop} {W0 A B : World} (h : Lv D A B) (hE : Ext W0 A) (hD : ∀ b, b < W0.heap.size → ¬ D b) : Ext W0 B :=
  Below.trans hE ⟨h.os, h.tape, h.output, h.size, fun b hb => h.block b (Nat.lt_of_lt_of_le hb hE.size_le) (hD b hb)⟩
end Go.Proofs.Ytccibfldadflkaa

namespace Go.Proofs.Ytccibfldadflkaa
open Go.RowKit

end Go.Proofs.Ytccibfldadflkaa

namespace Go.Proofs.Ytccibfldadflkaa
open Go.RowKit

/-- An append that tells where its row lies, at a step of a region that draws its order. -/
theorem step_append_at {P : Program} (w : World) {ops : Array Oper} {o : Oper} {a : Act} {K : Act → World → Prop} {Q : Exit → Act → World → Prop} {E : Prop} (hgd : o.guard = none) (s x : Operand) (t : TypeId)
    (ho : o.op = .call { callee := .builtin .append, args := #[s, x], argTypes := #[t, t] })
    (base : Nat) (e : TypeId) (i : TypeInfo) (z : Value) (size bytes : Nat) (ht : P.underlying t = some (.slice e)) (hi : P.info? e = some i) (hz : i.zero = some z)
    (hsize : i.size = size) (hby : i.bytes = bytes) (hzs : z.cells.size = size) (hsz : 0 < size)
    (v : Value) (n : Nat) (xs : List Value) (hs : a.eval s = v) (hown : w.ownsRow base e size v n xs)
    (ad : Addr) (m c : Nat) (news : List Value) (hx : a.eval x = .slice (some ad) m c) (hl : news.length = m * size) (hnews : ∀ j u, news[j]? = some u → w.cell? (ad.add j) = some u) (h1 : ∀ u ∈ news, u.oneCell' = true)
    (h63 : n + m ≤ maxLen) (hbytes : (n + m) * bytes ≤ 140737488355328) (hbase : base ≤ w.heap.size)
    (h : ∀ v' w', w'.ownsRow base e size v' (n + m) (xs ++ news) → w.grownBy w' v.ownBlock → (v' = .slice none 0 0 ↔ v = .slice none 0 0 ∧ m = 0) → (v'.ownBlock = v.ownBlock ∨ v'.ownBlock = some w.heap.size) → K (a.put o.dst v') w') :
    if Region.wanted o (yielded ops a.tmps) = true then Oper.wp P o a w K Q else E := by
  have hw : Region.wanted o (yielded ops a.tmps) = true := by simp [Region.wanted, hgd]
  rw [if_pos hw]
  obtain ⟨v', w', hr, h2, h3, h4, h5⟩ := run_append_own_at (P := P) w base t o.type e i z size bytes ht hi hz hsize hby hzs hsz v n xs hown ad m c news hl hnews h1 h63 hbytes hbase
  unfold Oper.wp execOp
  simp only [ho, resolve, invoke, builtin, Sem.run_bind, Sem.run_pure, Result.andThen_ok, List.map_toArray, List.map_cons, List.map_nil, hs, hx, hr]
  exact h v' w' h2 h3 h4 h5

/-- Lists of ints that lie in blocks of 'own', each in one of its own. -/
def PtsD (own : List Nat) (B : Nat) (X : World) (v : Value) (xss : List (List Int)) : Prop :=
  ∃ vs, X.ownsRow B 22 1 v xss.length vs ∧ (∀ b, v.ownBlock = some b → b ∈ own) ∧
    (∀ (i : Nat) (xs : List Int), xss[i]? = some xs → ∃ g c, vs[i]? = some (.slice (some ⟨g, 0, none⟩) xs.length c) ∧ IntsOwn B X (.slice (some ⟨g, 0, none⟩) xs.length c) xs ∧ g ∈ own ∧
      ∀ (j : Nat) (g' n' c' : Nat), j < i → vs[j]? = some (.slice (some ⟨g', 0, none⟩) n' c') → g' ≠ g)
theorem row_lv {B size n : Nat} {e : TypeId} {D : Nat → Prop} {w w' : World} {v : Value} {xs : List Value} (h : w.ownsRow B e size v n xs) (hv : Lv D w w') (hn : ∀ b, v.ownBlock = some b → ¬ D b) : w'.ownsRow B e size v n xs := by
  refine ⟨h.1, ?_⟩
  rcases h.2 with hn' | ⟨g, cap, cur, rfl, hb, hg, r⟩
  · exact .inl hn'
  · exact .inr ⟨g, cap, cur, rfl, hb, hv.heap hg (hn g rfl), r⟩
theorem PtsD.lv {own : List Nat} {B : Nat} {X X' : World} {v : Value} {xss : List (List Int)} (h : PtsD own B X v xss) (hv : Lv (fun k => k ∉ own) X X') : PtsD own B X' v xss := by
  obtain ⟨vs, ho, hb, he⟩ := h
  refine ⟨vs, row_lv ho hv (fun b h1 h2 => h2 (hb b h1)), hb, fun i xs hi => ?_⟩
  obtain ⟨g, c, h1, h2, h3, h4⟩ := he i xs hi
  exact ⟨g, c, h1, row_lv h2 hv (fun b h5 h6 => by simp [Value.ownBlock] at h5; subst h5; exact h6 h3), h3, h4⟩
theorem PtsD.nil (own : List Nat) (B : Nat) (X : World) : PtsD own B X (.slice none 0 0) [] := ⟨[], World.ownsRow_nil X B _ _, fun b h => by simp [Value.ownBlock] at h, fun i xs h => by simp at h⟩
/-- One point more. -/
theorem PtsD.push {own : List Nat} {B g c m : Nat} {X0 X1 X2 : World} {v v' : Value} {xss : List (List Int)} {x : List Int} {vs : List Value} (hm : xss.length = m) (hvl : vs.length = m) (hb : ∀ b ∈ own, b < X0.heap.size)
    (he : ∀ (i : Nat) (xs : List Int), xss[i]? = some xs → ∃ g c, vs[i]? = some (.slice (some ⟨g, 0, none⟩) xs.length c) ∧ IntsOwn B X1 (.slice (some ⟨g, 0, none⟩) xs.length c) xs ∧ g ∈ own ∧
      ∀ (j : Nat) (g' n' c' : Nat), j < i → vs[j]? = some (.slice (some ⟨g', 0, none⟩) n' c') → g' ≠ g)
    (hx : IntsOwn B X1 (.slice (some ⟨g, 0, none⟩) x.length c) x) (hg : X0.heap.size ≤ g) (ho' : X2.ownsRow B 22 1 v' (m + 1) (vs ++ [.slice (some ⟨g, 0, none⟩) x.length c])) (hgr : X1.grownBy X2 v.ownBlock) (ht : Tag X1 v.ownBlock 22) :
    PtsD (own ++ g :: v'.ownBlock.toList) B X2 v' (xss ++ [x]) := by
  refine ⟨_, by rw [List.length_append, hm]; exact ho', fun b h => by simp [h], fun i xs hi => ?_⟩
  rcases Nat.lt_or_ge i m with hlt | hge
  · rw [List.getElem?_append_left (by omega)] at hi
    obtain ⟨g1, c1, h1, h2, h3, h4⟩ := he i xs hi
    refine ⟨g1, c1, by rw [List.getElem?_append_left (by omega)]; exact h1, h2.tag hgr ht (by decide), by simp [h3], fun j g' n' c' hj h5 => h4 j g' n' c' hj ?_⟩
    rwa [List.getElem?_append_left (by omega)] at h5
  · rw [List.getElem?_append_right (by omega)] at hi
    have hi0 : i = m := by
      rcases Nat.eq_or_lt_of_le hge with h | h
      · exact h.symm
      · rw [List.getElem?_eq_none (by simp; omega)] at hi; cases hi
    subst hi0
    rw [hm, Nat.sub_self] at hi
    simp at hi
    subst hi
    refine ⟨g, c, by rw [List.getElem?_append_right (by omega)]; simp [hvl], hx.tag hgr ht (by decide), by simp, fun j g' n' c' hj h5 => ?_⟩
    rw [List.getElem?_append_left (by omega)] at h5
    obtain ⟨xs', hxs⟩ := get_some (xs := xss) (k := j) (by omega)
    obtain ⟨g1, c1, h1, -, h3, -⟩ := he j xs' hxs
    rw [h5] at h1
    simp only [Option.some.injEq, Value.slice.injEq, Addr.mk.injEq] at h1
    have := hb _ h3
    omega

end Go.Proofs.Ytccibfldadflkaa
