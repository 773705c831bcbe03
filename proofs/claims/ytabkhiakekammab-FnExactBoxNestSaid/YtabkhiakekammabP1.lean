/- Footprints: what memory a list of lists is made of; what stays where another part is written. -/
import Derived.Test.YtabkhiakekammabN3
import Derived.Test.YtabkhiakekammabA11
namespace Go.Proofs.Ytabkhiakekammab
open Go.RowKit

/-- Only new blocks, and writes to the blocks F. -/
structure Kp (F : List Nat) (w w' : World) : Prop where
  os : w'.os = w.os
  tape : w'.tape = w.tape
  output : w'.output = w.output
  size : w.heap.size ≤ w'.heap.size
  block : ∀ b, b < w.heap.size → b ∉ F → w'.heap[b]? = w.heap[b]?

theorem Kp.refl (F : List Nat) (w : World) : Kp F w w := ⟨rfl, rfl, rfl, Nat.le_refl _, fun _ _ _ => rfl⟩
theorem Kp.trans {F : List Nat} {a b c : World} (h : Kp F a b) (k : Kp F b c) : Kp F a c :=
  ⟨k.os.trans h.os, k.tape.trans h.tape, k.output.trans h.output, Nat.le_trans h.size k.size, fun i hi hf => (k.block i (Nat.lt_of_lt_of_le hi h.size) hf).trans (h.block i hi hf)⟩
theorem Kp.mono {F G : List Nat} {a b : World} (h : Kp F a b) (hs : ∀ x ∈ F, x ∈ G) : Kp G a b :=
  ⟨h.os, h.tape, h.output, h.size, fun i hi hg => h.block i hi (fun hf => hg (hs i hf))⟩
theorem Kp.of_grown {a b : World} {r : Option Nat} (h : a.grownBy b r) : Kp r.toList a b :=
  ⟨h.os, h.tape, h.output, h.size, fun i hi hf => h.block i hi (fun e => hf (by rw [← e]; simp))⟩
theorem Kp.of_ext {F : List Nat} {a b : World} (h : Ext a b) : Kp F a b := ⟨h.os, h.tape, h.output, h.size, fun i hi _ => h.block i hi⟩
theorem Kp.ext {F : List Nat} {W a b : World} (h : Kp F a b) (hE : Ext W a) (hF : ∀ x ∈ F, W.heap.size ≤ x) : Ext W b :=
  ⟨h.os.trans hE.os, h.tape.trans hE.tape, h.output.trans hE.output, Nat.le_trans hE.size h.size, fun i hi => (h.block i (Nat.lt_of_lt_of_le hi hE.size) (fun hf => by have := hF i hf; omega)).trans (hE.block i hi)⟩
theorem Kp.set (w : World) (g o : Nat) (v : Value) : Kp [g] w (w.setCell ⟨g, o, none⟩ v) :=
  ⟨rfl, rfl, rfl, by simp, fun i _ hf => heap_setCell_other w ⟨g, o, none⟩ i v (fun e => hf (by simp [e]))⟩

theorem row_kp {F : List Nat} {B size n : Nat} {e : TypeId} {w w' : World} {v : Value} {xs : List Value} (h : w.ownsRow B e size v n xs) (hk : Kp F w w') (hd : ∀ b, v.ownBlock = some b → b ∉ F) : w'.ownsRow B e size v n xs := by
  refine ⟨h.1, ?_⟩
  rcases h.2 with hn | ⟨g, cap, cur, hv, hbg, hg, r⟩
  · exact .inl hn
  · exact .inr ⟨g, cap, cur, hv, hbg, by rw [hk.block g (lt_of_block hg) (hd g (by rw [hv]; rfl))]; exact hg, r⟩

/-- A row of ints of the call's own, and its block. -/
def IntsF (B : Nat) (w : World) (v : Value) (xs : List Int) (F : List Nat) : Prop := IntsOwn B w v xs ∧ F = v.ownBlock.toList
theorem IntsF.kp {F G : List Nat} {B : Nat} {w w' : World} {v : Value} {xs : List Int} (h : IntsF B w v xs F) (hk : Kp G w w') (hd : ∀ x ∈ F, x ∉ G) : IntsF B w' v xs F :=
  ⟨row_kp h.1 hk (fun b hb => hd b (by rw [h.2, hb]; simp)), h.2⟩
theorem IntsF.lt {F : List Nat} {B : Nat} {w : World} {v : Value} {xs : List Int} (h : IntsF B w v xs F) : ∀ x ∈ F, B ≤ x ∧ x < w.heap.size := by
  intro x hx
  rw [h.2, Option.mem_toList] at hx
  exact h.1.lt x hx

/-- A row of pairs of the call's own: each element reads by R from blocks of its own. -/
def PairsF {α : Type} (T : TypeId) (R : Nat → World → Value → Value → α → List Nat → Prop) (B : Nat) (w : World) (v : Value) (xs : List α) (F : List Nat) : Prop :=
  ∃ (vs : List Value) (Fs : List (List Nat)), w.ownsRow B T 2 v xs.length vs ∧ Fs.length = xs.length ∧ F = v.ownBlock.toList ++ Fs.flatten ∧ F.Nodup ∧
    ∀ i x, xs[i]? = some x → ∃ u0 u1 Fi, vs[i * 2]? = some u0 ∧ vs[i * 2 + 1]? = some u1 ∧ Fs[i]? = some Fi ∧ R B w u0 u1 x Fi

theorem mem_flat {Fs : List (List Nat)} {i : Nat} {Fi : List Nat} (h : Fs[i]? = some Fi) {x : Nat} (hx : x ∈ Fi) : x ∈ Fs.flatten := List.mem_flatten.2 ⟨Fi, List.mem_of_getElem? h, hx⟩

theorem PairsF.kp {α : Type} {T : TypeId} {R : Nat → World → Value → Value → α → List Nat → Prop} (hR : ∀ {B w w' u0 u1 x F G}, R B w u0 u1 x F → Kp G w w' → (∀ y ∈ F, y ∉ G) → R B w' u0 u1 x F) {B : Nat} {w w' : World} {v : Value} {xs : List α} {F G : List Nat}
    (h : PairsF T R B w v xs F) (hk : Kp G w w') (hd : ∀ x ∈ F, x ∉ G) : PairsF T R B w' v xs F := by
  obtain ⟨vs, Fs, ho, hl, hF, hn, he⟩ := h
  refine ⟨vs, Fs, row_kp ho hk (fun b hb => hd b (by rw [hF, hb]; simp)), hl, hF, hn, fun i x hi => ?_⟩
  obtain ⟨u0, u1, Fi, h0, h1, h2, h3⟩ := he i x hi
  exact ⟨u0, u1, Fi, h0, h1, h2, hR h3 hk (fun y hy => hd y (by rw [hF]; exact List.mem_append_right _ (mem_flat h2 hy)))⟩

theorem nodup_flat_ne {Fs : List (List Nat)} (h : Fs.flatten.Nodup) : ∀ {i j : Nat} {Fi Fj : List Nat}, Fs[i]? = some Fi → Fs[j]? = some Fj → i ≠ j → ∀ x ∈ Fi, x ∉ Fj := by
  intro i j Fi Fj hi hj hne x hx hx'
  have h2 := (List.pairwise_flatten.1 h).2
  rcases Nat.lt_or_gt_of_ne hne with hlt | hlt
  · have h3 := List.pairwise_iff_getElem.1 h2 i j (List.getElem?_eq_some_iff.1 hi).1 (List.getElem?_eq_some_iff.1 hj).1 hlt
    rw [(List.getElem?_eq_some_iff.1 hi).2, (List.getElem?_eq_some_iff.1 hj).2] at h3
    exact h3 x hx x hx' rfl
  · have h3 := List.pairwise_iff_getElem.1 h2 j i (List.getElem?_eq_some_iff.1 hj).1 (List.getElem?_eq_some_iff.1 hi).1 hlt
    rw [(List.getElem?_eq_some_iff.1 hi).2, (List.getElem?_eq_some_iff.1 hj).2] at h3
    exact h3 x hx' x hx rfl

/-- Element i is written in its own blocks. -/
theorem PairsF.turn {α : Type} {T : TypeId} {R : Nat → World → Value → Value → α → List Nat → Prop} (hR : ∀ {B w w' u0 u1 x F G}, R B w u0 u1 x F → Kp G w w' → (∀ y ∈ F, y ∉ G) → R B w' u0 u1 x F) {B : Nat} {w : World} {v : Value} {xs : List α} {F : List Nat}
    (h : PairsF T R B w v xs F) {i : Nat} {x : α} (hi : xs[i]? = some x) :
    ∃ u0 u1 Fi, R B w u0 u1 x Fi ∧ (∀ y ∈ Fi, y ∈ F) ∧ (∀ b, v.ownBlock = some b → b ∉ Fi) ∧
      (∀ (n c g : Nat), v = .slice (some ⟨g, 0, none⟩) n c → w.cell? ⟨g, i * 2, none⟩ = some u0 ∧ w.cell? ⟨g, i * 2 + 1, none⟩ = some u1 ∧ w.frozen? ⟨g, i * 2 + 1, none⟩ = false) ∧
      ∀ (w' : World) (x' : α), Kp Fi w w' → R B w' u0 u1 x' Fi → PairsF T R B w' v (xs.set i x') F := by
  obtain ⟨vs, Fs, ho, hl, hF, hn, he⟩ := h
  obtain ⟨u0, u1, Fi, h0, h1, h2, h3⟩ := he i x hi
  have hlt : i < xs.length := (List.getElem?_eq_some_iff.1 hi).1
  rw [hF] at hn
  have hna := List.nodup_append.1 hn
  have hown : ∀ b, v.ownBlock = some b → b ∉ Fi := fun b hb hbf => hna.2.2 b (by rw [hb]; simp) b (mem_flat h2 hbf) rfl
  refine ⟨u0, u1, Fi, h3, fun y hy => by rw [hF]; exact List.mem_append_right _ (mem_flat h2 hy), hown, ?_, ?_⟩
  · rintro n c g rfl
    have hn' : n = xs.length := by
      rcases ho.2 with ⟨e, _⟩ | ⟨g', cap, cur, e, _⟩
      · cases e
      · cases e; rfl
    subst hn'
    exact ⟨by rw [ho.cellAt (i * 2) (by omega)]; exact h0, by rw [ho.cellAt (i * 2 + 1) (by omega)]; exact h1, ho.frozenAt _⟩
  · intro w' x' hk hx'
    refine ⟨vs, Fs, by rw [List.length_set]; exact row_kp ho hk hown, by rw [List.length_set]; exact hl, hF, by rw [hF]; exact hn, fun j y hj => ?_⟩
    by_cases e : j = i
    · subst e
      rw [List.getElem?_set_self hlt] at hj
      cases hj
      exact ⟨u0, u1, Fi, h0, h1, h2, hx'⟩
    · rw [List.getElem?_set_ne (fun e' => e e'.symm)] at hj
      obtain ⟨t0, t1, Fj, g0, g1, g2, g3⟩ := he j y hj
      exact ⟨t0, t1, Fj, g0, g1, g2, hR g3 hk (nodup_flat_ne hna.2.1 g2 h2 e)⟩
/-- The second cell of element i is written. -/
theorem PairsF.turn1 {α : Type} {T : TypeId} {R : Nat → World → Value → Value → α → List Nat → Prop} (hR : ∀ {B w w' u0 u1 x F G}, R B w u0 u1 x F → Kp G w w' → (∀ y ∈ F, y ∉ G) → R B w' u0 u1 x F) {B g n c : Nat} {w : World} {xs : List α} {F : List Nat}
    (h : PairsF T R B w (.slice (some ⟨g, 0, none⟩) n c) xs F) {i : Nat} {x x' : α} (hi : xs[i]? = some x) (u1' : Value) (hx : ∀ {u0 u1 Fi w'}, R B w' u0 u1 x Fi → R B w' u0 u1' x' Fi) :
    PairsF T R B (w.setCell ⟨g, i * 2 + 1, none⟩ u1') (.slice (some ⟨g, 0, none⟩) n c) (xs.set i x') F := by
  obtain ⟨vs, Fs, ho, hl, hF, hn, he⟩ := h
  have hlt : i < xs.length := (List.getElem?_eq_some_iff.1 hi).1
  have hnl : n = xs.length := by
    rcases ho.2 with ⟨e, _⟩ | ⟨g', cap, cur, e, _⟩
    · cases e
    · cases e; rfl
  subst hnl
  have hna := List.nodup_append.1 (by rw [hF] at hn; exact hn)
  have hvl := ho.1
  refine ⟨vs.set (i * 2 + 1) u1', Fs, by rw [List.length_set]; exact (ho.stored (i * 2 + 1) u1').1, by rw [List.length_set]; exact hl, hF, hn, fun j y hj => ?_⟩
  have hgd : ∀ {Fj : List Nat} {j : Nat}, Fs[j]? = some Fj → ∀ z ∈ Fj, z ∉ [g] := by
    intro Fj j hj z hz hz'
    have : z = g := by simpa using hz'
    subst this
    exact hna.2.2 z (by simp [Value.ownBlock]) z (mem_flat hj hz) rfl
  by_cases e : j = i
  · subst e
    rw [List.getElem?_set_self hlt] at hj
    cases hj
    obtain ⟨t0, t1, Fj, g0, g1, g2, g3⟩ := he j x hi
    refine ⟨t0, u1', Fj, by rw [List.getElem?_set_ne (by omega)]; exact g0, by rw [List.getElem?_set_self (by omega)], g2, hx (hR g3 (Kp.set w g _ u1') (hgd g2))⟩
  · rw [List.getElem?_set_ne (fun e' => e e'.symm)] at hj
    obtain ⟨t0, t1, Fj, g0, g1, g2, g3⟩ := he j y hj
    exact ⟨t0, t1, Fj, by rw [List.getElem?_set_ne (by omega)]; exact g0, by rw [List.getElem?_set_ne (by omega)]; exact g1, g2, hR g3 (Kp.set w g _ u1') (hgd g2)⟩
end Go.Proofs.Ytabkhiakekammab
