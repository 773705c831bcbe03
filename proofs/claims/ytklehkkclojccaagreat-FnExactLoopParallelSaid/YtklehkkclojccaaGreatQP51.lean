/- The texts G23 G24 G31, joined. No statement is proved here. -/
import Derived.Test.YtklehkkclojccaaGreatQP20
import Derived.Test.YtklehkkclojccaaGreatQP37
import Derived.Laws.MakeOwn
import Derived.Test.YtklehkkclojccaaGreatQP36
import Derived.Test.YtklehkkclojccaaGreatQP24
import Derived.Test.YtklehkkclojccaaGreatQP09
import Derived.Laws.IdiomStrings
set_option maxRecDepth 100000
set_option maxHeartbeats 8000000
set_option linter.unusedVariables false
set_option linter.unusedSimpArgs false
namespace Go.Proofs.YtklehkkclojccaaGreat
open Go.RowKit
def flg (n : Nat) (s : List Int) : List Bool := (List.range n).map (fun (j : Nat) => decide ((j : Int) ∈ s))
theorem jY11 {n m : Nat} (s : List Int) (h : m < n) : (flg n s)[m]? = some (decide ((m : Int) ∈ s)) := by
 simp [flg, List.getElem?_map, List.getElem?_range h]
theorem flg_set (n m : Nat) (s : List Int) : (flg n s).set m true = flg n (s ++ [(m : Int)]) := by
 refine List.ext_getElem? (fun j => ?_)
 rw [List.getElem?_set]
 by_cases hj : j < n
 ·rw [jY11 _ hj, jY11 _ hj]
  by_cases e : m = j
  ·subst e; simp [flg, hj]
  ·rw [if_neg e]
   have : (j : Int) ≠ (m : Int) := by omega
   simp [this]
 ·have h1 : (flg n s)[j]? = none := List.getElem?_eq_none (by simp [flg]; omega)
  have h2 : (flg n (s ++ [(m : Int)]))[j]? = none := List.getElem?_eq_none (by simp [flg]; omega)
  rw [h1, h2]
  by_cases e : m = j
  ·rw [if_pos e, if_neg (by simp [flg]; omega)]
  ·rw [if_neg e]
def FlgAt (w : World) (L : Nat) (l : List Bool) : Prop := w.heap[L]? = some (.cells (l.map Value.bool).toArray 4 (0, 0))
theorem FlgAt.cell {w : World} {L m : Nat} {l : List Bool} {b : Bool} (h : FlgAt w L l) (hm : l[m]? = some b) : w.cell? ⟨L, m, none⟩ = some (.bool b) := by
 unfold FlgAt at h
 simp [World.cell?, h, List.getElem?_map, hm]
theorem FlgAt.frozen {w : World} {L m : Nat} {l : List Bool} (h : FlgAt w L l) : w.frozen? ⟨L, m, none⟩ = false := by
 unfold FlgAt at h
 simp [World.frozen?, h]
theorem FlgAt.set {w : World} {L m : Nat} {l : List Bool} (h : FlgAt w L l) (b : Bool) : FlgAt (w.setCell ⟨L, m, none⟩ (.bool b)) L (l.set m b) := by
 have h1 := heap_setCell_same w L m _ _ (.bool b) h
 unfold FlgAt
 rw [h1]
 simp [List.map_set]
theorem jY5Q : (Tryz.prog.info? 4).map (fun i => (i.zero, i.size, i.bytes)) = some (some (.bool false), 1, 1) := by kernel_rfl
theorem jY3L (n : Nat) : madeCells (Value.bool false).cells (n * 1) = ((flg n []).map Value.bool).toArray := by
 unfold madeCells flg
 apply Array.ext'
 simp [Value.cells]
 intro a _
 rw [Nat.mod_one]
 rfl
theorem jY3D (n : Nat) (hn : n ≤ 1048576) (w : World) : (Instr.makeSlice 98 (.int .i64 (n : Int)) (.int .i64 (n : Int))).run Tryz.prog w = .ok (.slice (some ⟨w.heap.size, 0, none⟩) n n) (w.alloc (.cells ((flg n []).map Value.bool).toArray 4)) := by
 obtain ⟨i, hi, hz, hs, hb⟩ := info_parts jY5Q
 have h := run_makeSlice (P := Tryz.prog) w 98 4 i (.bool false) Tryz.underlying98 hi hz .i64 .i64 (n : Int) (n : Int) (by omega) (Int.le_refl _) (by rw [hs]; simp; omega) (by rw [hb]; simp; omega) (by omega)
 rw [h, hs, Int.toNat_natCast, jY3L]
end Go.Proofs.YtklehkkclojccaaGreat
namespace Go.Proofs.YtklehkkclojccaaGreat
open Go.RowKit Go.Maps
theorem jWC {ars : List Arr} {ps : List Pt} (h : progB ars ps = true) : (insM ps).length ≤ 120 := by rw [jY3g]; exact (jXq h).2.2.2
end Go.Proofs.YtklehkkclojccaaGreat
namespace Go.Proofs.YtklehkkclojccaaGreat
open Go.RowKit
structure Sh (B : Nat) (w0 w : World) : Prop where
 size : w0.heap.size ≤ w.heap.size
 cell : ∀ g o u, B ≤ g → g < w0.heap.size → w0.cell? ⟨g, o, none⟩ = some u → ∃ u', w.cell? ⟨g, o, none⟩ = some u'
 slc : ∀ g o p n c, B ≤ g → g < w0.heap.size → w0.cell? ⟨g, o, none⟩ = some (.slice p n c) → w.cell? ⟨g, o, none⟩ = some (.slice p n c)
 frz : ∀ g o, B ≤ g → g < w0.heap.size → w0.frozen? ⟨g, o, none⟩ = false → w.frozen? ⟨g, o, none⟩ = false
theorem Sh.refl (B : Nat) (w : World) : Sh B w w := ⟨Nat.le_refl _, fun _ _ u _ _ h => ⟨u, h⟩, fun _ _ _ _ _ _ _ h => h, fun _ _ _ _ h => h⟩
def NoSl (u : Value) : Prop := ∀ p n c, u ≠ .slice p n c
theorem NoSl.int (x : Int) : NoSl (.int .i64 x) := fun _ _ _ h => by cases h
theorem jY1V {w w' : World} {g o : Nat} (h : w'.heap[g]? = w.heap[g]?) : w'.frozen? ⟨g, o, none⟩ = w.frozen? ⟨g, o, none⟩ := by
 simp only [World.frozen?, h]
theorem Sh.ext {B : Nat} {w0 w w' : World} (h : Sh B w0 w) (hE : Ext w w') : Sh B w0 w' := by
 have hb : ∀ g, g < w0.heap.size → w'.heap[g]? = w.heap[g]? := fun g hg => hE.block g (Nat.lt_of_lt_of_le hg h.size)
 refine ⟨Nat.le_trans h.size hE.size, fun g o u h1 h2 h3 => ?_, fun g o p n c h1 h2 h3 => ?_, fun g o h1 h2 h3 => ?_⟩
 ·rw [World.cell?_of_block (hb g h2)]; exact h.cell g o u h1 h2 h3
 ·rw [World.cell?_of_block (hb g h2)]; exact h.slc g o p n c h1 h2 h3
 ·rw [jY1V (hb g h2)]; exact h.frz g o h1 h2 h3
theorem Sh.set {B : Nat} {w0 w : World} (h : Sh B w0 w) {g o : Nat} {u : Value} (hg : w0.cell? ⟨g, o, none⟩ = some u) (hu : NoSl u) (x : Value) : Sh B w0 (w.setCell ⟨g, o, none⟩ x) := by
 refine ⟨by rw [World.size_setCell]; exact h.size, fun g' o' u' h1 h2 h3 => ?_, fun g' o' p n c h1 h2 h3 => ?_, fun g' o' h1 h2 h3 => ?_⟩
 ·by_cases e : (⟨g, o, none⟩ : Addr) = ⟨g', o', none⟩
  ·cases e
   obtain ⟨u2, h4⟩ := h.cell g o u' h1 h2 h3
   exact ⟨x, World.cell?_setCell_same _ _ _ h4⟩
  ·rw [World.cell?_setCell_other _ _ _ _ e]; exact h.cell g' o' u' h1 h2 h3
 ·by_cases e : (⟨g, o, none⟩ : Addr) = ⟨g', o', none⟩
  ·cases e
   rw [hg] at h3; cases h3
   exact absurd rfl (hu p n c)
  ·rw [World.cell?_setCell_other _ _ _ _ e]; exact h.slc g' o' p n c h1 h2 h3
 ·rw [World.frozen?_setCell]; exact h.frz g' o' h1 h2 h3
structure Mk (B : Nat) (w0 w w' : World) : Prop where
 sh : Sh B w0 w'
 lv : Lv (fun b => B ≤ b ∧ b < w0.heap.size) w w'
theorem Mk.refl {B : Nat} {w0 w : World} (h : Sh B w0 w) : Mk B w0 w w := ⟨h, Lv.refl _ _⟩
theorem Mk.trans {B : Nat} {w0 a b c : World} (h : Mk B w0 a b) (k : Mk B w0 b c) : Mk B w0 a c := ⟨k.sh, h.lv.trans k.lv (fun _ _ h => h) (fun _ _ h => h)⟩
theorem Mk.ext {B : Nat} {w0 a b c : World} (h : Mk B w0 a b) (hE : Ext b c) : Mk B w0 a c := h.trans ⟨h.sh.ext hE, hE.lv⟩
theorem Mk.set {B : Nat} {w0 a b : World} (h : Mk B w0 a b) {g o : Nat} {u : Value} (hB : B ≤ g) (hl : g < w0.heap.size) (hg : w0.cell? ⟨g, o, none⟩ = some u) (hu : NoSl u) (x : Value) : Mk B w0 a (b.setCell ⟨g, o, none⟩ x) :=
 h.trans ⟨h.sh.set hg hu x, ⟨rfl, rfl, rfl, by rw [World.size_setCell]; exact Nat.le_refl _, fun k _ hn => Below.heap_setCell _ _ _ _ (fun e => hn (by rw [e]; exact ⟨hB, hl⟩))⟩⟩
structure Cl (B : Nat) (w0 : World) (g o : Nat) (u : Value) : Prop where
 lo : B ≤ g
 hi : g < w0.heap.size
 cell : w0.cell? ⟨g, o, none⟩ = some u
 frz : w0.frozen? ⟨g, o, none⟩ = false
theorem Cl.of {B g n c j size : Nat} {e : TypeId} {w0 : World} {vs : List Value} {u : Value} (ho : w0.ownsRow B e size (.slice (some ⟨g, 0, none⟩) n c) n vs) (hu : vs[j]? = some u) : Cl B w0 g j u := by
 have h := ho.lt g rfl
 have hl := ho.1
 have hj := (List.getElem?_eq_some_iff.1 hu).1
 exact ⟨h.1, h.2, by rw [ho.cellAt j (by omega)]; exact hu, ho.frozenAt j⟩
theorem jY5g {B n size : Nat} {e : TypeId} {w0 : World} {v : Value} {vs : List Value} (ho : w0.ownsRow B e size v n vs) : ∃ p c, v = .slice p n c := by
 rcases ho.2 with ⟨h, h0⟩ | ⟨g, cap, cur, h, _⟩
 ·exact ⟨none, 0, by rw [h, h0]⟩
 ·exact ⟨_, _, h⟩
theorem Cl.open {B g o : Nat} {w0 w : World} {u : Value} (h : Cl B w0 g o u) (hS : Sh B w0 w) : w.frozen? ⟨g, o, none⟩ = false ∧ (∃ v, w.cell? ⟨g, o, none⟩ = some v) ∧ g < w.heap.size :=
 ⟨hS.frz g o h.lo h.hi h.frz, hS.cell g o u h.lo h.hi h.cell, Nat.lt_of_lt_of_le h.hi hS.size⟩
theorem Cl.slc {B g o n c : Nat} {w0 w : World} {p : Option Addr} (h : Cl B w0 g o (.slice p n c)) (hS : Sh B w0 w) : w.cell? ⟨g, o, none⟩ = some (.slice p n c) := hS.slc g o p n c h.lo h.hi h.cell
theorem Mk.put {B : Nat} {w0 a b : World} (h : Mk B w0 a b) {g o : Nat} {u : Value} (hc : Cl B w0 g o u) (hu : NoSl u) (x : Value) : Mk B w0 a (b.setCell ⟨g, o, none⟩ x) := h.set hc.lo hc.hi hc.cell hu x
def tot {α : Type} (f : α → Nat) : List α → Nat
 | [] => 0
 | x :: r => f x + tot f r
end Go.Proofs.YtklehkkclojccaaGreat
