/- The texts P1, joined. No statement is proved here. -/
import Derived.Test.YtggpjapmhakklaaK17
import Derived.Test.YtggpjapmhakklaaK13
import Derived.Test.YtggpjapmhakklaaK33
import Derived.Maps.AppendAt
/- Footprints: what memory a list of lists is made of; what stays where another part is written. | Marks in lists of expressions and nests; what the marks are when they are looked at. | Marks in nests; what the marks are when they are looked at. | BoxNest: the nest of a box, laid in memory of its own. | BoxNest, the program's. -/
namespace Go.Proofs.Ytggpjapmhakklaa
open Go.RowKit

/-- Only new blocks, and writes to the blocks F. -/
structure Kp (F : List Nat) (w w' : World) : Prop where
  os : w'.os = w.os
  tape : w'.tape = w.tape
  output : w'.output = w.output
  size : w.heap.size ≤ w'.heap.size
  block : ∀ b, b < w.heap.size → b ∉ F → w'.heap[b]? = w.heap[b]?

theorem Kp.refl (F : List Nat) (w : World) : Kp F w w := ⟨rfl, rfl, rfl, Nat.le_refl _, fun _ _ _ => rfl⟩
theorem Kp.trans {F : List Nat} {a b c : World} (h : Kp F a b) (k : Kp F b c) : Kp F a c :=
  ⟨k.os.trans h.os, k.tape.trans h.tape, k.output.trans h.output, Nat.le_trans h.size k.size, fun i hi hf => (k.block i (Nat.lt_of_lt_of_le hi h.size) hf).trans (h.block i hi hf)⟩
theorem Kp.mono {F G : List Nat} {a b : World} (h : Kp F a b) (hs : ∀ x ∈ F, x ∈ G) : Kp G a b :=
  ⟨h.os, h.tape, h.output, h.size, fun i hi hg => h.block i hi (fun hf => hg (hs i hf))⟩
theorem Kp.of_grown {a b : World} {r : Option Nat} (h : a.grownBy b r) : Kp r.toList a b :=
  ⟨h.os, h.tape, h.output, h.size, fun i hi hf => h.block i hi (fun e => hf (by rw [← e]; simp))⟩
theorem Kp.of_ext {F : List Nat} {a b : World} (h : Ext a b) : Kp F a b := ⟨h.os, h.tape, h.output, h.size, fun i hi _ => h.block i hi⟩
theorem Kp.ext {F : List Nat} {W a b : World} (h : Kp F a b) (hE : Ext W a) (hF : ∀ x ∈ F, W.heap.size ≤ x) : Ext W b :=
  ⟨h.os.trans hE.os, h.tape.trans hE.tape, h.output.trans hE.output, Nat.le_trans hE.size h.size, fun i hi => (h.block i (Nat.lt_of_lt_of_le hi hE.size) (fun hf => by have := hF i hf; omega)).trans (hE.block i hi)⟩
theorem Kp.set (w : World) (g o : Nat) (v : Value) : Kp [g] w (w.setCell ⟨g, o, none⟩ v) :=
  ⟨rfl, rfl, rfl, by simp, fun i _ hf => heap_setCell_other w ⟨g, o, none⟩ i v (fun e => hf (by simp [e]))⟩

theorem row_kp {F : List Nat} {B size n : Nat} {e : TypeId} {w w' : World} {v : Value} {xs : List Value} (h : w.ownsRow B e size v n xs) (hk : Kp F w w') (hd : ∀ b, v.ownBlock = some b → b ∉ F) : w'.ownsRow B e size v n xs := by
  refine ⟨h.1, ?_⟩
  rcases h.2 with hn | ⟨g, cap, cur, hv, hbg, hg, r⟩
  · exact .inl hn
  · exact .inr ⟨g, cap, cur, hv, hbg, by rw [hk.block g (lt_of_block hg) (hd g (by rw [hv]; rfl))]; exact hg, r⟩

/-- A row of ints of the call's own, and its block. -/
def IntsF (B : Nat) (w : World) (v : Value) (xs : List Int) (F : List Nat) : Prop := IntsOwn B w v xs ∧ F = v.ownBlock.toList
theorem IntsF.kp {F G : List Nat} {B : Nat} {w w' : World} {v : Value} {xs : List Int} (h : IntsF B w v xs F) (hk : Kp G w w') (hd : ∀ x ∈ F, x ∉ G) : IntsF B w' v xs F :=
  ⟨row_kp h.1 hk (fun b hb => hd b (by rw [h.2, hb]; simp)), h.2⟩
theorem IntsF.lt {F : List Nat} {B : Nat} {w : World} {v : Value} {xs : List Int} (h : IntsF B w v xs F) : ∀ x ∈ F, B ≤ x ∧ x < w.heap.size := by
  intro x hx
  rw [h.2, Option.mem_toList] at hx
  exact h.1.lt x hx

/-- A row of pairs of the call's own: each element reads by R from blocks of its own. -/
def PairsF {α : Type} (T : TypeId) (R : Nat → World → Value → Value → α → List Nat → Prop) (B : Nat) (w : World) (v : Value) (xs : List α) (F : List Nat) : Prop :=
  ∃ (vs : List Value) (Fs : List (List Nat)), w.ownsRow B T 2 v xs.length vs ∧ Fs.length = xs.length ∧ F = v.ownBlock.toList ++ Fs.flatten ∧ F.Nodup ∧
    ∀ i x, xs[i]? = some x → ∃ u0 u1 Fi, vs[i * 2]? = some u0 ∧ vs[i * 2 + 1]? = some u1 ∧ Fs[i]? = some Fi ∧ R B w u0 u1 x Fi

theorem mem_flat {Fs : List (List Nat)} {i : Nat} {Fi : List Nat} (h : Fs[i]? = some Fi) {x : Nat} (hx : x ∈ Fi) : x ∈ Fs.flatten := List.mem_flatten.2 ⟨Fi, List.mem_of_getElem? h, hx⟩

theorem PairsF.kp {α : Type} {T : TypeId} {R : Nat → World → Value → Value → α → List Nat → Prop} (hR : ∀ {B w w' u0 u1 x F G}, R B w u0 u1 x F → Kp G w w' → (∀ y ∈ F, y ∉ G) → R B w' u0 u1 x F) {B : Nat} {w w' : World} {v : Value} {xs : List α} {F G : List Nat}
    (h : PairsF T R B w v xs F) (hk : Kp G w w') (hd : ∀ x ∈ F, x ∉ G) : PairsF T R B w' v xs F := by
  obtain ⟨vs, Fs, ho, hl, hF, hn, he⟩ := h
  refine ⟨vs, Fs, row_kp ho hk (fun b hb => hd b (by rw [hF, hb]; simp)), hl, hF, hn, fun i x hi => ?_⟩
  obtain ⟨u0, u1, Fi, h0, h1, h2, h3⟩ := he i x hi
  exact ⟨u0, u1, Fi, h0, h1, h2, hR h3 hk (fun y hy => hd y (by rw [hF]; exact List.mem_append_right _ (mem_flat h2 hy)))⟩

theorem nodup_flat_ne {Fs : List (List Nat)} (h : Fs.flatten.Nodup) : ∀ {i j : Nat} {Fi Fj : List Nat}, Fs[i]? = some Fi → Fs[j]? = some Fj → i ≠ j → ∀ x ∈ Fi, x ∉ Fj := by
  intro i j Fi Fj hi hj hne x hx hx'
  have h2 := (List.pairwise_flatten.1 h).2
  rcases Nat.lt_or_gt_of_ne hne with hlt | hlt
  · have h3 := List.pairwise_iff_getElem.1 h2 i j (List.getElem?_eq_some_iff.1 hi).1 (List.getElem?_eq_some_iff.1 hj).1 hlt
    rw [(List.getElem?_eq_some_iff.1 hi).2, (List.getElem?_eq_some_iff.1 hj).2] at h3
    exact h3 x hx x hx' rfl
  · have h3 := List.pairwise_iff_getElem.1 h2 j i (List.getElem?_eq_some_iff.1 hj).1 (List.getElem?_eq_some_iff.1 hi).1 hlt
    rw [(List.getElem?_eq_some_iff.1 hi).2, (List.getElem?_eq_some_iff.1 hj).2] at h3
    exact h3 x hx' x hx rfl

/-- Element i is written in its own blocks. -/
theorem PairsF.turn {α : Type} {T : TypeId} {R : Nat → World → Value → Value → α → List Nat → Prop} (hR : ∀ {B w w' u0 u1 x F G}, R B w u0 u1 x F → Kp G w w' → (∀ y ∈ F, y ∉ G) → R B w' u0 u1 x F) {B : Nat} {w : World} {v : Value} {xs : List α} {F : List Nat}
    (h : PairsF T R B w v xs F) {i : Nat} {x : α} (hi : xs[i]? = some x) :
    ∃ u0 u1 Fi, R B w u0 u1 x Fi ∧ (∀ y ∈ Fi, y ∈ F) ∧ (∀ b, v.ownBlock = some b → b ∉ Fi) ∧
      (∀ (n c g : Nat), v = .slice (some ⟨g, 0, none⟩) n c → w.cell? ⟨g, i * 2, none⟩ = some u0 ∧ w.cell? ⟨g, i * 2 + 1, none⟩ = some u1 ∧ w.frozen? ⟨g, i * 2 + 1, none⟩ = false) ∧
      ∀ (w' : World) (x' : α), Kp Fi w w' → R B w' u0 u1 x' Fi → PairsF T R B w' v (xs.set i x') F := by
  obtain ⟨vs, Fs, ho, hl, hF, hn, he⟩ := h
  obtain ⟨u0, u1, Fi, h0, h1, h2, h3⟩ := he i x hi
  have hlt : i < xs.length := (List.getElem?_eq_some_iff.1 hi).1
  rw [hF] at hn
  have hna := List.nodup_append.1 hn
  have hown : ∀ b, v.ownBlock = some b → b ∉ Fi := fun b hb hbf => hna.2.2 b (by rw [hb]; simp) b (mem_flat h2 hbf) rfl
  refine ⟨u0, u1, Fi, h3, fun y hy => by rw [hF]; exact List.mem_append_right _ (mem_flat h2 hy), hown, ?_, ?_⟩
  · rintro n c g rfl
    have hn' : n = xs.length := by
      rcases ho.2 with ⟨e, _⟩ | ⟨g', cap, cur, e, _⟩
      · cases e
      · cases e; rfl
    subst hn'
    exact ⟨by rw [ho.cellAt (i * 2) (by omega)]; exact h0, by rw [ho.cellAt (i * 2 + 1) (by omega)]; exact h1, ho.frozenAt _⟩
  · intro w' x' hk hx'
    refine ⟨vs, Fs, by rw [List.length_set]; exact row_kp ho hk hown, by rw [List.length_set]; exact hl, hF, by rw [hF]; exact hn, fun j y hj => ?_⟩
    by_cases e : j = i
    · subst e
      rw [List.getElem?_set_self hlt] at hj
      cases hj
      exact ⟨u0, u1, Fi, h0, h1, h2, hx'⟩
    · rw [List.getElem?_set_ne (fun e' => e e'.symm)] at hj
      obtain ⟨t0, t1, Fj, g0, g1, g2, g3⟩ := he j y hj
      exact ⟨t0, t1, Fj, g0, g1, g2, hR g3 hk (nodup_flat_ne hna.2.1 g2 h2 e)⟩
/-- The second cell of element i is written. -/
theorem PairsF.turn1 {α : Type} {T : TypeId} {R : Nat → World → Value → Value → α → List Nat → Prop} (hR : ∀ {B w w' u0 u1 x F G}, R B w u0 u1 x F → Kp G w w' → (∀ y ∈ F, y ∉ G) → R B w' u0 u1 x F) {B g n c : Nat} {w : World} {xs : List α} {F : List Nat}
    (h : PairsF T R B w (.slice (some ⟨g, 0, none⟩) n c) xs F) {i : Nat} {x x' : α} (hi : xs[i]? = some x) (u1' : Value) (hx : ∀ {u0 u1 Fi w'}, R B w' u0 u1 x Fi → R B w' u0 u1' x' Fi) :
    PairsF T R B (w.setCell ⟨g, i * 2 + 1, none⟩ u1') (.slice (some ⟨g, 0, none⟩) n c) (xs.set i x') F := by
  obtain ⟨vs, Fs, ho, hl, hF, hn, he⟩ := h
  have hlt : i < xs.length := (List.getElem?_eq_some_iff.1 hi).1
  have hnl : n = xs.length := by
    rcases ho.2 with ⟨e, _⟩ | ⟨g', cap, cur, e, _⟩
    · cases e
    · cases e; rfl
  subst hnl
  have hna := List.nodup_append.1 (by rw [hF] at hn; exact hn)
  have hvl := ho.1
  refine ⟨vs.set (i * 2 + 1) u1', Fs, by rw [List.length_set]; exact (ho.stored (i * 2 + 1) u1').1, by rw [List.length_set]; exact hl, hF, hn, fun j y hj => ?_⟩
  have hgd : ∀ {Fj : List Nat} {j : Nat}, Fs[j]? = some Fj → ∀ z ∈ Fj, z ∉ [g] := by
    intro Fj j hj z hz hz'
    have : z = g := by simpa using hz'
    subst this
    exact hna.2.2 z (by simp [Value.ownBlock]) z (mem_flat hj hz) rfl
  by_cases e : j = i
  · subst e
    rw [List.getElem?_set_self hlt] at hj
    cases hj
    obtain ⟨t0, t1, Fj, g0, g1, g2, g3⟩ := he j x hi
    refine ⟨t0, u1', Fj, by rw [List.getElem?_set_ne (by omega)]; exact g0, by rw [List.getElem?_set_self (by omega)], g2, hx (hR g3 (Kp.set w g _ u1') (hgd g2))⟩
  · rw [List.getElem?_set_ne (fun e' => e e'.symm)] at hj
    obtain ⟨t0, t1, Fj, g0, g1, g2, g3⟩ := he j y hj
    exact ⟨t0, t1, Fj, by rw [List.getElem?_set_ne (by omega)]; exact g0, by rw [List.getElem?_set_ne (by omega)]; exact g1, g2, hR g3 (Kp.set w g _ u1') (hgd g2)⟩
end Go.Proofs.Ytggpjapmhakklaa

namespace Go.Proofs.Ytggpjapmhakklaa
open Go.RowKit

def AffF (B : Nat) (w : World) (u0 u1 : Value) (a : Aff) (F : List Nat) : Prop := IntsF B w u0 a.1 F ∧ u1 = .int .i64 a.2
theorem AffF.kp {B : Nat} {w w' : World} {u0 u1 : Value} {x : Aff} {F G : List Nat} (h : AffF B w u0 u1 x F) (hk : Kp G w w') (hd : ∀ y ∈ F, y ∉ G) : AffF B w' u0 u1 x F := ⟨h.1.kp hk hd, h.2⟩
def AffsF : Nat → World → Value → List Aff → List Nat → Prop := PairsF 45 AffF
theorem AffsF.kp {B : Nat} {w w' : World} {v : Value} {xs : List Aff} {F G : List Nat} (h : AffsF B w v xs F) (hk : Kp G w w') (hd : ∀ y ∈ F, y ∉ G) : AffsF B w' v xs F := PairsF.kp (fun h hk hd => h.kp hk hd) h hk hd
def LoopF (B : Nat) (w : World) (u0 u1 : Value) (x : Lp) (F : List Nat) : Prop := ∃ F0 F1, F = F0 ++ F1 ∧ F.Nodup ∧ AffsF B w u0 x.1 F0 ∧ AffsF B w u1 x.2 F1
theorem LoopF.kp {B : Nat} {w w' : World} {u0 u1 : Value} {x : Lp} {F G : List Nat} (h : LoopF B w u0 u1 x F) (hk : Kp G w w') (hd : ∀ y ∈ F, y ∉ G) : LoopF B w' u0 u1 x F := by
  obtain ⟨F0, F1, e, hn, h0, h1⟩ := h
  exact ⟨F0, F1, e, hn, h0.kp hk (fun y hy => hd y (by rw [e]; simp [hy])), h1.kp hk (fun y hy => hd y (by rw [e]; simp [hy]))⟩
theorem PairsF.at' {α : Type} {T : TypeId} {R : Nat → World → Value → Value → α → List Nat → Prop} {Q : World → Value → Value → α → Prop} (hq : ∀ {B w u0 u1 x F}, R B w u0 u1 x F → Q w u0 u1 x) {B : Nat} {w : World} {v : Value} {xs : List α} {F : List Nat} (h : PairsF T R B w v xs F) : PairsAt Q w v xs := by
  obtain ⟨vs, Fs, ho, hl, hF, hn, he⟩ := h
  rcases ho.2 with ⟨rfl, hn0⟩ | ⟨g, cap, cur, rfl, _⟩
  · refine ⟨none, 0, by rw [hn0], by omega, fun i x hi => ?_⟩
    rw [List.eq_nil_of_length_eq_zero hn0] at hi; simp at hi
  · refine PairsAt.own ho rfl (fun i x hi => ?_)
    obtain ⟨u0, u1, Fi, h0, h1, h2, h3⟩ := he i x hi
    exact ⟨u0, u1, h0, h1, hq h3⟩
theorem AffsF.at {B : Nat} {w : World} {v : Value} {xs : List Aff} {F : List Nat} (h : AffsF B w v xs F) : AffsAt w v xs := PairsF.at' (fun h => ⟨h.1.1.at, h.2⟩) h
theorem PairsF.form {α : Type} {T : TypeId} {R : Nat → World → Value → Value → α → List Nat → Prop} {B : Nat} {w : World} {v : Value} {xs : List α} {F : List Nat} (h : PairsF T R B w v xs F) (h0 : 0 < xs.length) : ∃ g c, v = .slice (some ⟨g, 0, none⟩) xs.length c := by
  obtain ⟨vs, Fs, ho, _⟩ := h
  rcases ho.2 with ⟨_, hn0⟩ | ⟨g, cap, cur, e, _⟩
  · omega
  · exact ⟨g, cap, e⟩

theorem PairsF.mem {α : Type} {T : TypeId} {R : Nat → World → Value → Value → α → List Nat → Prop} {B g n c : Nat} {w : World} {xs : List α} {F : List Nat} (h : PairsF T R B w (.slice (some ⟨g, 0, none⟩) n c) xs F) : g ∈ F := by
  obtain ⟨vs, Fs, ho, hl, hF, _⟩ := h
  rw [hF]; simp [Value.ownBlock]

/-- The marks of a list of expressions from k on, and the number behind the last one. -/
def markAs : Int → List Aff → List Aff
  | _, [] => []
  | k, a :: r => (marks k a.1.length, k + a.1.length) :: markAs (k + a.1.length + 1) r
def endA : Int → List Aff → Int
  | k, [] => k
  | k, a :: r => endA (k + a.1.length + 1) r
theorem markAs_len (k : Int) (l : List Aff) : (markAs k l).length = l.length := by
  induction l generalizing k with
  | nil => rfl
  | cons a r ih => simp [markAs, ih]
theorem endA_app (k : Int) (l r : List Aff) : endA k (l ++ r) = endA (endA k l) r := by
  induction l generalizing k with
  | nil => rfl
  | cons a l ih => simp only [List.cons_append, endA]; exact ih _
theorem markAs_app (k : Int) (l r : List Aff) : markAs k (l ++ r) = markAs k l ++ markAs (endA k l) r := by
  induction l generalizing k with
  | nil => rfl
  | cons a l ih => simp only [List.cons_append, markAs, endA]; rw [ih]
theorem endA_ge (k : Int) (l : List Aff) : k ≤ endA k l := by
  induction l generalizing k with
  | nil => exact Int.le_refl _
  | cons a l ih => have := ih (k + a.1.length + 1); simp only [endA]; omega
theorem endA_next {l : List Aff} {i : Nat} {a : Aff} (h : l[i]? = some a) (k : Int) : endA k (l.take (i + 1)) = endA k (l.take i) + a.1.length + 1 := by
  rw [take_next h, endA_app]; rfl
theorem endA_take (k : Int) (l : List Aff) (i : Nat) : endA k (l.take i) ≤ endA k l := by
  conv => rhs; rw [← List.take_append_drop i l, endA_app]
  exact endA_ge _ _
theorem markAs_get {l : List Aff} {i : Nat} {a : Aff} (h : l[i]? = some a) (k : Int) : (markAs k l)[i]? = some (marks (endA k (l.take i)) a.1.length, endA k (l.take i) + a.1.length) := by
  have hlt : i < l.length := (List.getElem?_eq_some_iff.1 h).1
  conv => lhs; rw [← List.take_append_drop i l, markAs_app]
  have hd : l.drop i = a :: l.drop (i + 1) := by
    rw [List.drop_eq_getElem_cons hlt, (List.getElem?_eq_some_iff.1 h).2]
  rw [hd, List.getElem?_append_right (by rw [markAs_len, List.length_take]; omega), markAs_len, List.length_take, Nat.min_eq_left (by omega), Nat.sub_self]
  rfl
/-- The list with its first i elements marked. -/
def midA (k : Int) (l : List Aff) (i : Nat) : List Aff := markAs k (l.take i) ++ l.drop i
theorem midA_len (k : Int) (l : List Aff) (i : Nat) : (midA k l i).length = l.length := by
  simp only [midA, List.length_append, markAs_len, List.length_take, List.length_drop]; omega
theorem midA_get {l : List Aff} {i : Nat} {a : Aff} (h : l[i]? = some a) (k : Int) : (midA k l i)[i]? = some a := by
  have hlt : i < l.length := (List.getElem?_eq_some_iff.1 h).1
  unfold midA
  rw [List.getElem?_append_right (by rw [markAs_len, List.length_take]; omega), markAs_len, List.length_take, Nat.min_eq_left (by omega), Nat.sub_self, List.getElem?_drop, Nat.add_zero]
  exact h
theorem midA_next {l : List Aff} {i : Nat} {a : Aff} (h : l[i]? = some a) (k : Int) : (midA k l i).set i (marks (endA k (l.take i)) a.1.length, endA k (l.take i) + a.1.length) = midA k l (i + 1) := by
  have hlt : i < l.length := (List.getElem?_eq_some_iff.1 h).1
  have hd : l.drop i = a :: l.drop (i + 1) := by
    rw [List.drop_eq_getElem_cons hlt, (List.getElem?_eq_some_iff.1 h).2]
  unfold midA
  rw [hd, List.set_append_right _ _ (by rw [markAs_len, List.length_take]; omega), markAs_len, List.length_take, Nat.min_eq_left (by omega), Nat.sub_self, List.set_cons_zero, take_next h, markAs_app, List.append_assoc]
  rfl

set_option maxHeartbeats 2000000 in
theorem markAffineS_any (B : Nat) (p : Option Addr) (n c : Nat) (xs : List Aff) (F : List Nat) (k : Int) (w : World) (hn : xs.length = n) (ho : AffsF B w (.slice p n c) xs F) (hk : 0 ≤ k) (hk1 : endA k xs ≤ 1000000000) (hn1 : n ≤ 2000000) :
    Calls Try.prog 57 #[.slice p n c, .int .i64 k] w fun e w' => e = .returned (.int .i64 (endA k xs)) ∧ AffsF B w' (.slice p n c) (markAs k xs) F ∧ Kp F w w' := by
  have HO := Lib.hid ho; have HN := Lib.hid hn; clear ho hn
  have HK1 := Lib.hid hk1; clear hk1
  go_enter Try.func57, Try.ntmps57
  go_wp2
  go_loopw [1, 5] (fun kk i wr => ∃ j : Nat, j ≤ n ∧ i = .int .i64 j ∧ kk = .int .i64 (endA k (xs.take j)) ∧ AffsF B wr (.slice p n c) (midA k xs j) F ∧ Kp F w wr) (fun _ i _ => n - (intOf i).toNat)
  case atStart => exact ⟨0, by omega, rfl, by simp [endA], by simpa [midA, markAs] using HO.out, Kp.refl _ _⟩
  case round =>
    obtain ⟨j, hj, rfl, rfl, hown, hg⟩ := hrel
    by_cases hlt : j < n
    · obtain ⟨x, hx⟩ := get_some (xs := xs) (k := j) (by rw [HN.out]; exact hlt)
      obtain ⟨g, c', e⟩ := PairsF.form hown (by rw [midA_len, HN.out]; omega)
      simp only [Value.slice.injEq] at e
      obtain ⟨rfl, -, rfl⟩ := e
      obtain ⟨u0, u1, Fi, ⟨hi0, rfl⟩, hsub, hgF, hcell, hturn⟩ := PairsF.turn (T := 45) (R := AffF) (fun h hk hd => AffF.kp h hk hd) hown (midA_get hx k)
      obtain ⟨c0, c1, f1⟩ := hcell n c g rfl
      have hFi := hi0.2
      obtain ⟨q, m, rfl, hm, -⟩ := hi0.1.at
      have hge := endA_ge k (xs.take j)
      have hnx := endA_next hx k
      have hle := endA_take k xs (j + 1)
      have hb1 := HK1.out
      have HX := Lib.hid hx; have HNX := Lib.hid hnx; have HI := Lib.hid hi0; have HT := Lib.hid hturn; have HG := Lib.hid hg; have HS := Lib.hid hsub; have HGF := Lib.hid hgF; have HFi := Lib.hid hFi
      clear hx hnx hi0 hturn hg hcell hsub hgF hFi hown
      rw [HNX.out] at hle
      generalize hE : endA k (xs.take j) = z at *
      have HE := Lib.hid hE; clear hE
      go_wp2_with (fail)
      refine (markIntS_any B q x.1.length m x.1 z _ rfl HI.out.1 (by omega) (by omega)).mono ?_
      rintro e w1 ⟨rfl, h1, h2⟩
      have hkp : Kp Fi wr w1 := by rw [HFi.out]; exact Kp.of_grown h2
      have T1 := HT.out w1 (marks z x.1.length, x.2) hkp ⟨⟨IntsOwn.mk h1 (marks_len _ _), HFi.out⟩, rfl⟩
      have hl1 : j < (midA k xs j).length := by rw [midA_len, HN.out]; exact hlt
      have he1 : ((midA k xs j).set j (marks z x.1.length, x.2))[j]? = some (marks z x.1.length, x.2) := List.getElem?_set_self hl1
      obtain ⟨_, _, _, -, -, -, hcell1, -⟩ := PairsF.turn (T := 45) (R := AffF) (fun h hk hd => AffF.kp h hk hd) T1 he1
      obtain ⟨d0, d1, f1'⟩ := hcell1 n c g rfl
      have T2 := PairsF.turn1 (T := 45) (R := AffF) (fun h hk hd => AffF.kp h hk hd) T1 he1 (.int .i64 (z + x.1.length)) (x' := (marks z x.1.length, z + x.1.length)) (fun h => ⟨h.1, rfl⟩)
      rw [List.set_set, ← HE.out, midA_next HX.out k, HE.out] at T2
      have hgm := PairsF.mem T2
      have K2 := Lib.hid ((HG.out.trans (hkp.mono HS.out)).trans ((Kp.set w1 g (j * 2 + 1) (.int .i64 (z + x.1.length))).mono (by intro y hy; simp at hy; rw [hy]; exact hgm)))
      have HT2 := Lib.hid T2
      clear T1 T2 hkp hcell1 h1 h2 he1 hgm c0 c1 f1 HT HG HS HGF HFi HI
      go_wp2
      go_roundw
      case rel => exact ⟨j + 1, by omega, by go_num, by rw [HNX.out], HT2.out, K2.out⟩
      case measure => simp [intOf]; omega
    · have e : j = n := by omega
      subst e
      go_wp2
      go_ret
      rw [List.take_of_length_le (by rw [HN.out]; omega)]
      refine ⟨rfl, ?_, hg⟩
      have h := hown
      unfold midA at h
      rwa [List.take_of_length_le (by rw [HN.out]; omega), List.drop_eq_nil_of_le (by rw [HN.out]; omega), List.append_nil] at h

set_option maxHeartbeats 2000000 in
theorem heldAffineS_any (p : Option Addr) (n c : Nat) (xs : List Aff) (k : Int) (w : World) (hn : xs.length = n) (hs : AffsAt w (.slice p n c) (markAs k xs)) (hk : 0 ≤ k) (hk1 : endA k xs ≤ 1000000000) (hn1 : n ≤ 2000000) :
    Calls Try.prog 58 #[.slice p n c, .int .i64 k] w fun e w' => e = .returned (.int .i64 (endA k xs)) ∧ w = w' := by
  have HS := Lib.hid hs; have HN := Lib.hid hn; have HK1 := Lib.hid hk1; clear hs hn hk1
  go_enter Try.func58, Try.ntmps58
  go_wp2
  go_loop [1, 5] (fun kk i => ∃ j : Nat, j ≤ n ∧ i = .int .i64 j ∧ kk = .int .i64 (endA k (xs.take j))) (fun _ i => n - (intOf i).toNat)
  case atStart => exact ⟨0, by omega, rfl, by simp [endA]⟩
  case round =>
    obtain ⟨j, hj, rfl, rfl⟩ := hrel
    by_cases hlt : j < n
    · obtain ⟨x, hx⟩ := get_some (xs := xs) (k := j) (by rw [HN.out]; exact hlt)
      obtain ⟨b, off, q, m, rfl, c0, c1, hb, hr⟩ := HS.out.elem (markAs_get hx k)
      dsimp only at c0 c1 hr
      have hge := endA_ge k (xs.take j)
      have hnx := endA_next hx k
      have hle := endA_take k xs (j + 1)
      have hb1 := HK1.out
      rw [marks_len] at c0
      have HR := Lib.hid hr; have HNX := Lib.hid hnx; clear hr hnx hx
      rw [HNX.out] at hle
      generalize endA k (xs.take j) = z at *
      go_wp2_with (fail)
      refine (heldIntS_any _ x.1.length z _ (by have h := HR.out; rw [marks_len] at h; exact h) (by omega) (by omega)).mono ?_
      rintro e w1 ⟨rfl, rfl⟩
      have hd : decide (z + (x.1.length : Int) < 0) = false := by simp; omega
      go_wp2
      go_round
      case rel => exact ⟨j + 1, by omega, by go_num, by rw [HNX.out]⟩
      case measure => simp [intOf]; omega
    · have e : j = n := by omega
      subst e
      go_wp2
      go_ret
      rw [List.take_of_length_le (by rw [HN.out]; omega)]
      exact ⟨rfl, rfl⟩
end Go.Proofs.Ytggpjapmhakklaa

namespace Go.Proofs.Ytggpjapmhakklaa
open Go.RowKit

theorem drop_cons {α : Type} {l : List α} {i : Nat} {a : α} (h : l[i]? = some a) : l.drop i = a :: l.drop (i + 1) := by
  rw [List.drop_eq_getElem_cons (List.getElem?_eq_some_iff.1 h).1, (List.getElem?_eq_some_iff.1 h).2]
end Go.Proofs.Ytggpjapmhakklaa

namespace Go.Proofs.Ytggpjapmhakklaa
open Go.RowKit

theorem PairsF.push {α : Type} {T : TypeId} {R : Nat → World → Value → Value → α → List Nat → Prop} (hR : ∀ {B w w' u0 u1 x F G}, R B w u0 u1 x F → Kp G w w' → (∀ y ∈ F, y ∉ G) → R B w' u0 u1 x F) {B n : Nat} {w w' : World} {v v' u0 u1 : Value} {xs : List α} {x : α} {F Fx : List Nat} {vs : List Value} {Fs : List (List Nat)}
    (hxn' : xs.length = n) (hl : Fs.length = xs.length) (hF : F = v.ownBlock.toList ++ Fs.flatten) (hn : F.Nodup)
    (he : ∀ i x, xs[i]? = some x → ∃ u0 u1 Fi, vs[i * 2]? = some u0 ∧ vs[i * 2 + 1]? = some u1 ∧ Fs[i]? = some Fi ∧ R B w u0 u1 x Fi) (hvl : vs.length = n * 2)
    (ho' : w'.ownsRow B T 2 v' (n + 1) (vs ++ [u0, u1])) (hg : w.grownBy w' v.ownBlock) (hat : v'.ownBlock = v.ownBlock ∨ v'.ownBlock = some w.heap.size)
    (hx : R B w u0 u1 x Fx) (hxn : Fx.Nodup) (hxd : ∀ y ∈ Fx, y ∉ F) (hFlt : ∀ y ∈ F, y < w.heap.size) (hxlt : ∀ y ∈ Fx, y < w.heap.size) :
    ∃ F', PairsF T R B w' v' (xs ++ [x]) F' ∧ ∀ y ∈ F', y < w'.heap.size := by
  rw [hF] at hn
  have hna := List.nodup_append.1 hn
  have hk : Kp v.ownBlock.toList w w' := Kp.of_grown hg
  have hvF : ∀ y ∈ v.ownBlock.toList, y ∈ F := fun y hy => by rw [hF]; exact List.mem_append_left _ hy
  have hfF : ∀ y ∈ Fs.flatten, y ∈ F := fun y hy => by rw [hF]; exact List.mem_append_right _ hy
  refine ⟨v'.ownBlock.toList ++ (Fs ++ [Fx]).flatten, ⟨vs ++ [u0, u1], Fs ++ [Fx], ?_, ?_, rfl, ?_, ?_⟩, ?_⟩
  · rw [List.length_append, hxn']; exact ho'
  · simp [hl]
  · rw [List.flatten_append, List.flatten_cons, List.flatten_nil, List.append_nil]
    refine List.nodup_append.2 ⟨?_, List.nodup_append.2 ⟨hna.2.1, hxn, fun a ha b hb e => hxd b hb (by rw [← e]; exact hfF a ha)⟩, ?_⟩
    · cases v'.ownBlock with
      | none => exact List.nodup_nil
      | some b => simp
    · intro a ha b hb e
      subst e
      rcases hat with h | h
      · rw [h] at ha
        rcases List.mem_append.1 hb with hb | hb
        · exact hna.2.2 a ha a hb rfl
        · exact hxd a hb (hvF a ha)
      · rw [h, Option.mem_toList] at ha
        have ha' : w.heap.size = a := Option.some.inj ha
        rcases List.mem_append.1 hb with hb | hb
        · have := hFlt a (hfF a hb); omega
        · have := hxlt a hb; omega
  · intro i y hi
    rcases Nat.lt_or_ge i xs.length with hlt | hge
    · rw [List.getElem?_append_left hlt] at hi
      obtain ⟨t0, t1, Fi, g0, g1, g2, g3⟩ := he i y hi
      refine ⟨t0, t1, Fi, by rw [List.getElem?_append_left (by omega)]; exact g0, by rw [List.getElem?_append_left (by omega)]; exact g1, by rw [List.getElem?_append_left (by omega)]; exact g2, hR g3 hk (fun z hz hz' => hna.2.2 z hz' z (mem_flat g2 hz) rfl)⟩
    · rw [List.getElem?_append_right hge] at hi
      have hi0 : i - xs.length = 0 := by
        rcases Nat.eq_zero_or_pos (i - xs.length) with h | h
        · exact h
        · rw [List.getElem?_eq_none (by simp; omega)] at hi; cases hi
      rw [hi0] at hi
      simp at hi
      subst hi
      have hin : i = n := by omega
      subst hin
      exact ⟨u0, u1, Fx, by rw [List.getElem?_append_right (by omega)]; simp [hvl], by rw [List.getElem?_append_right (by omega), hvl]; simp [show i * 2 + 1 - i * 2 = 1 by omega], by rw [List.getElem?_append_right (by omega)]; simp [hl, hxn'], hR hx hk (fun z hz hz' => hxd z hz (hvF z hz'))⟩
  · intro y hy
    rw [List.flatten_append, List.flatten_cons, List.flatten_nil, List.append_nil] at hy
    have hs := hk.size
    rcases List.mem_append.1 hy with hy | hy
    · rw [Option.mem_toList] at hy
      exact (ho'.lt y hy).2
    · rcases List.mem_append.1 hy with hy | hy
      · have := hFlt y (hfF y hy); omega
      · have := hxlt y hy; omega

theorem IntsF.weak {B B' : Nat} {w : World} {v : Value} {xs : List Int} {F : List Nat} (h : IntsF B w v xs F) (hB : B' ≤ B) : IntsF B' w v xs F := ⟨h.1.weak hB, h.2⟩
theorem AffsF.weak {B B' : Nat} {w : World} {v : Value} {xs : List Aff} {F : List Nat} (h : AffsF B w v xs F) (hB : B' ≤ B) : AffsF B' w v xs F := by
  obtain ⟨vs, Fs, ho, hl, hF, hn, he⟩ := h
  refine ⟨vs, Fs, ownsRow_weak ho hB, hl, hF, hn, fun i x hi => ?_⟩
  obtain ⟨u0, u1, Fi, h0, h1, h2, h3⟩ := he i x hi
  exact ⟨u0, u1, Fi, h0, h1, h2, h3.1.weak hB, h3.2⟩
theorem PairsF.ge {α : Type} {T : TypeId} {R : Nat → World → Value → Value → α → List Nat → Prop} (hR : ∀ {B w u0 u1 x F}, R B w u0 u1 x F → ∀ y ∈ F, B ≤ y) {B : Nat} {w : World} {v : Value} {xs : List α} {F : List Nat} (h : PairsF T R B w v xs F) : ∀ y ∈ F, B ≤ y := by
  obtain ⟨vs, Fs, ho, hl, hF, hn, he⟩ := h
  intro y hy
  rw [hF] at hy
  rcases List.mem_append.1 hy with hy | hy
  · rw [Option.mem_toList] at hy; exact (ho.lt y hy).1
  · obtain ⟨Fi, hFi, hyi⟩ := List.mem_flatten.1 hy
    obtain ⟨i, hi⟩ := List.mem_iff_getElem?.1 hFi
    obtain ⟨x, hx⟩ := get_some (xs := xs) (k := i) (by rw [← hl]; exact (List.getElem?_eq_some_iff.1 hi).1)
    obtain ⟨_, _, Fj, _, _, h2, h3⟩ := he i x hx
    rw [hi] at h2; cases h2
    exact hR h3 y hyi
theorem AffsF.ge {B : Nat} {w : World} {v : Value} {xs : List Aff} {F : List Nat} (h : AffsF B w v xs F) : ∀ y ∈ F, B ≤ y := PairsF.ge (fun h y hy => (h.1.lt y hy).1) h
end Go.Proofs.Ytggpjapmhakklaa

namespace Go.Proofs.Ytggpjapmhakklaa
open Go.RowKit

theorem PairsF.slice {α : Type} {T : TypeId} {R : Nat → World → Value → Value → α → List Nat → Prop} {B : Nat} {w : World} {v : Value} {xs : List α} {F : List Nat} (h : PairsF T R B w v xs F) : ∃ p c, v = .slice p xs.length c := by
  obtain ⟨vs, Fs, ho, _⟩ := h
  rcases ho.2 with ⟨rfl, hn0⟩ | ⟨g, cap, cur, e, _⟩
  · exact ⟨none, 0, by rw [hn0]⟩
  · exact ⟨_, cap, e⟩

end Go.Proofs.Ytggpjapmhakklaa
