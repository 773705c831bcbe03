/- The texts G26 G27 G37, joined. No statement is proved here. -/
import Derived.Test.YtmhldhjpfeageabGreatK40
import Derived.Test.YtmhldhjpfeageabGreatK16
/- Dependences between two instances: the model's DepBetween and the program's. No statement is proved here. -/
namespace Go.Proofs.YtmhldhjpfeageabGreat
open Go.RowKit Go.Maps
theorem usesM_len (ars : List Arr) (ps : List Pt) : (usesM ars ps).length = (insM ps).length := by unfold usesM; rw [List.length_map]
end Go.Proofs.YtmhldhjpfeageabGreat
/- Dependences between two instances: the program's. No statement is proved here. -/
namespace Go.Proofs.YtmhldhjpfeageabGreat
open Go.RowKit Go.Maps
end Go.Proofs.YtmhldhjpfeageabGreat
/- Dependences as lists of pairs of numbers with kinds, levels, orders, connected parts: pure facts; rows of dependences and of ints in memory. No statement is proved here. -/
namespace Go.Proofs.YtmhldhjpfeageabGreat
open Go.RowKit Go.Maps
abbrev D3 := Nat × Nat × Int
def flatD (l : List D3) : List Value := l.flatMap (fun d => [.int .i64 (d.1 : Int), .int .i64 (d.2.1 : Int), .int .i64 d.2.2])
theorem flatD_get : ∀ {l : List D3} {i : Nat} {d : D3}, l[i]? = some d → (flatD l)[i * 3]? = some (.int .i64 (d.1 : Int)) ∧ (flatD l)[i * 3 + 1]? = some (.int .i64 (d.2.1 : Int)) ∧ (flatD l)[i * 3 + 2]? = some (.int .i64 d.2.2)
 | [], _, _, h => by simp at h
 | x :: r, 0, d, h => by simp at h; subst h; simp [flatD]
 | x :: r, i + 1, d, h => by
  rw [List.getElem?_cons_succ] at h
  have := flatD_get h
  have e : flatD (x :: r) = [.int .i64 (x.1 : Int), .int .i64 (x.2.1 : Int), .int .i64 x.2.2] ++ flatD r := by simp [flatD]
  rw [e, show (i + 1) * 3 = i * 3 + 3 by omega, show i * 3 + 3 + 1 = i * 3 + 1 + 3 by omega, show i * 3 + 3 + 2 = i * 3 + 2 + 3 by omega]
  simpa using this
def DepsOwn (B : Nat) (w : World) (v : Value) (l : List D3) : Prop := w.ownsRow B 353 3 v l.length (flatD l)
theorem DepsOwn.ext {B : Nat} {w w' : World} {v : Value} {l : List D3} (h : DepsOwn B w v l) (hE : Ext w w') : DepsOwn B w' v l := ownsRow_ext h hE
theorem DepsOwn.weak {B B' : Nat} {w : World} {v : Value} {l : List D3} (h : DepsOwn B w v l) (hB : B' ≤ B) : DepsOwn B' w v l := ownsRow_weak h hB
theorem DepsOwn.lv {B : Nat} {D : Nat → Prop} {w w' : World} {v : Value} {l : List D3} (h : DepsOwn B w v l) (hv : Lv D w w') (hD : ∀ b, v.ownBlock = some b → ¬ D b) : DepsOwn B w' v l := row_lv h hv hD
theorem DepsOwn.tag {B : Nat} {T : TypeId} {w w' : World} {v : Value} {l : List D3} {row : Option Nat} (h : DepsOwn B w v l) (hg : w.grownBy w' row) (ht : Tag w row T) (hT : T ≠ 353) : DepsOwn B w' v l := row_tag h hg ht hT
theorem DepsOwn.setOld {B : Nat} {w : World} {v : Value} {l : List D3} (h : DepsOwn B w v l) {p : Addr} (hp : p.block < B) (u : Value) : DepsOwn B (w.setCell p u) v l := ownsRow_setCell_below h hp u
theorem DepsOwn.form {B : Nat} {w : World} {v : Value} {l : List D3} (h : DepsOwn B w v l) : ∃ p c, v = .slice p l.length c := by
 rcases h.2 with ⟨rfl, hn⟩ | ⟨g, cap, cur, rfl, _⟩
 ·exact ⟨none, 0, by rw [hn]⟩
 ·exact ⟨_, _, rfl⟩
theorem DepsOwn.elem {B n c i : Nat} {w : World} {p : Option Addr} {l : List D3} {d : D3} (h : DepsOwn B w (.slice p n c) l) (hi : l[i]? = some d) :
  ∃ o, p = some ⟨o, 0, none⟩ ∧ B ≤ o ∧ o < w.heap.size ∧ w.cell? ⟨o, i * 3, none⟩ = some (.int .i64 (d.1 : Int)) ∧ w.cell? ⟨o, i * 3 + 1, none⟩ = some (.int .i64 (d.2.1 : Int)) ∧ w.cell? ⟨o, i * 3 + 2, none⟩ = some (.int .i64 d.2.2) := by
 obtain ⟨a0, a1, a2⟩ := flatD_get hi
 have ho2 := h.2
 rcases ho2 with ⟨e, h0⟩ | ⟨o, cap, cur, e, hB, hg, _⟩
 ·have := (List.getElem?_eq_some_iff.1 hi).1; omega
 ·cases e
  have hc := World.ownsRow.cells h (g := o) rfl
  have c0 := hc _ _ a0; have c1 := hc _ _ a1; have c2 := hc _ _ a2
  simp only [Addr.add_lit, Nat.zero_add] at c0 c1 c2
  exact ⟨o, rfl, hB, lt_of_block hg, c0, c1, c2⟩
theorem UsesOwn.tag {B : Nat} {T : TypeId} {w w' : World} {v : Value} {l : List Us} {row : Option Nat} (h : UsesOwn B w v l) (hg : w.grownBy w' row) (ht : Tag w row T) (hT : T ≠ 3) (hT2 : T ≠ 121) : UsesOwn B w' v l := by
 obtain ⟨vs, h1, h2⟩ := h
 exact ⟨vs, row_tag h1 hg ht hT2, fun i x hi => by obtain ⟨u0, u1, a, b, d⟩ := h2 i x hi; exact ⟨u0, u1, a, b, d.1.tag hg ht hT, d.2⟩⟩
theorem IntsOwn.cellI {B g n c i : Nat} {w : World} {xs : List Int} {x : Int} (h : IntsOwn B w (.slice (some ⟨g, 0, none⟩) n c) xs) (hi : xs[i]? = some x) : w.cell? ⟨g, i, none⟩ = some (.int .i64 x) := by
 have hc := World.ownsRow.cells h (g := g) rfl i (.int .i64 x) (by rw [List.getElem?_map, hi]; rfl)
 simpa only [Addr.add_lit, Nat.zero_add] using hc
theorem IntsOwn.frz {B g n c : Nat} {w : World} {xs : List Int} (h : IntsOwn B w (.slice (some ⟨g, 0, none⟩) n c) xs) (j : Nat) : w.frozen? ⟨g, j, none⟩ = false := by
 rcases h.2 with ⟨e, _⟩ | ⟨g', cap, cur, e, _, hg, _⟩
 ·cases e
 ·cases e; exact frozen_of_row w g j cur 3 hg
theorem IntsOwn.atBlock {B n c i : Nat} {w : World} {p : Option Addr} {xs : List Int} {x : Int} (h : IntsOwn B w (.slice p n c) xs) (hi : xs[i]? = some x) : ∃ g, p = some ⟨g, 0, none⟩ := by
 rcases h.2 with ⟨e, h0⟩ | ⟨g, cap, cur, e, _⟩
 ·have h1 := (List.getElem?_eq_some_iff.1 hi).1; omega
 ·cases e; exact ⟨g, rfl⟩
end Go.Proofs.YtmhldhjpfeageabGreat
