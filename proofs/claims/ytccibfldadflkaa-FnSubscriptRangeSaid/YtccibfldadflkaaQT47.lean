/- The texts P1 V3, joined. No statement is proved here. -/
import Derived.Test.YtccibfldadflkaaQT07
import Derived.Test.YtccibfldadflkaaQT39
import Derived.Test.YtccibfldadflkaaQT15
import Derived.Maps.AppendAt
import Derived.Test.YtccibfldadflkaaQT49
/- Footprints: what memory a list of lists is made of; what stays where another part is written. | Marks in lists of expressions and nests; what the marks are when they are looked at. | Marks in nests; what the marks are when they are looked at. | BoxNest: the nest of a box, laid in memory of its own. | BoxNest, the program's. -/
namespace Go.Proofs.Ytccibfldadflkaa
open Go.RowKit

/-- Only new blocks, and writes to the blocks F. -/
structure Kp (F : List Nat) (w w' : World) : Prop where
  os : w'.os = w.os
  tape : w'.tape = w.tape
  output : w'.output = w.output
  size : w.heap.size ≤ w'.heap.size
  block : ∀ b, b < w.heap.size → b ∉ F → w'.heap[b]? = w.heap[b]?

theorem Kp.refl (F : List Nat) (w : World) : Kp F w w := ⟨rfl, rfl, rfl, Nat.le_refl _, fun _ _ _ => rfl⟩
theorem Kp.trans {F : List Nat} {a b c : World} (h : Kp F a b) (k : Kp F b c) : Kp F a c :=
  ⟨k.os.trans h.os, k.tape.trans h.tape, k.output.trans h.output, Nat.le_trans h.size k.size, fun i hi hf => (k.block i (Nat.lt_of_lt_of_le hi h.size) hf).trans (h.block i hi hf)⟩
theorem Kp.mono {F G : List Nat} {a b : World} (h : Kp F a b) (hs : ∀ x ∈ F, x ∈ G) : Kp G a b :=
  ⟨h.os, h.tape, h.output, h.size, fun i hi hg => h.block i hi (fun hf => hg (hs i hf))⟩
theorem Kp.of_grown {a b : World} {r : Option Nat} (h : a.grownBy b r) : Kp r.toList a b :=
  ⟨h.os, h.tape, h.output, h.size, fun i hi hf => h.block i hi (fun e => hf (by rw [← e]; simp))⟩
theorem Kp.ext {F : List Nat} {W a b : World} (h : Kp F a b) (hE : Ext W a) (hF : ∀ x ∈ F, W.heap.size ≤ x) : Ext W b :=
  ⟨h.os.trans hE.os, h.tape.trans hE.tape, h.output.trans hE.output, Nat.le_trans hE.size h.size, fun i hi => (h.block i (Nat.lt_of_lt_of_le hi hE.size) (fun hf => by have := hF i hf; omega)).trans (hE.block i hi)⟩
theorem Kp.set (w : World) (g o : Nat) (v : Value) : Kp [g] w (w.setCell ⟨g, o, none⟩ v) :=
  ⟨rfl, rfl, rfl, by simp, fun i _ hf => heap_setCell_other w ⟨g, o, none⟩ i v (fun e => hf (by simp [e]))⟩

/-- A row of ints of the call's own, and its block. -/
def IntsF (B : Nat) (w : World) (v : Value) (xs : List Int) (F : List Nat) : Prop := IntsOwn B w v xs ∧ F = v.ownBlock.toList
theorem IntsF.lt {F : List Nat} {B : Nat} {w : World} {v : Value} {xs : List Int} (h : IntsF B w v xs F) : ∀ x ∈ F, B ≤ x ∧ x < w.heap.size := by
  intro x hx
  rw [h.2, Option.mem_toList] at hx
  exact h.1.lt x hx

/-- A row of pairs of the call's own: each element reads by R from blocks of its own. -/
def PairsF {α : Type} (T : TypeId) (R : Nat → World → Value → Value → α → List Nat → Prop) (B : Nat) (w : World) (v : Value) (xs : List α) (F : List Nat) : Prop :=
  ∃ (vs : List Value) (Fs : List (List Nat)), w.ownsRow B T 2 v xs.length vs ∧ Fs.length = xs.length ∧ F = v.ownBlock.toList ++ Fs.flatten ∧ F.Nodup ∧
    ∀ i x, xs[i]? = some x → ∃ u0 u1 Fi, vs[i * 2]? = some u0 ∧ vs[i * 2 + 1]? = some u1 ∧ Fs[i]? = some Fi ∧ R B w u0 u1 x Fi

theorem mem_flat {Fs : List (List Nat)} {i : Nat} {Fi : List Nat} (h : Fs[i]? = some Fi) {x : Nat} (hx : x ∈ Fi) : x ∈ Fs.flatten := List.mem_flatten.2 ⟨Fi, List.mem_of_getElem? h, hx⟩

end Go.Proofs.Ytccibfldadflkaa

namespace Go.Proofs.Ytccibfldadflkaa
open Go.RowKit

def AffF (B : Nat) (w : World) (u0 u1 : Value) (a : Aff) (F : List Nat) : Prop := IntsF B w u0 a.1 F ∧ u1 = .int .i64 a.2
def AffsF : Nat → World → Value → List Aff → List Nat → Prop := PairsF 36 AffF
def LoopF (B : Nat) (w : World) (u0 u1 : Value) (x : Lp) (F : List Nat) : Prop := ∃ F0 F1, F = F0 ++ F1 ∧ F.Nodup ∧ AffsF B w u0 x.1 F0 ∧ AffsF B w u1 x.2 F1
def LoopsF : Nat → World → Value → List Lp → List Nat → Prop := PairsF 75 LoopF
theorem PairsF.at' {α : Type} {T : TypeId} {R : Nat → World → Value → Value → α → List Nat → Prop} {Q : World → Value → Value → α → Prop} (hq : ∀ {B w u0 u1 x F}, R B w u0 u1 x F → Q w u0 u1 x) {B : Nat} {w : World} {v : Value} {xs : List α} {F : List Nat} (h : PairsF T R B w v xs F) : PairsAt Q w v xs := by
  obtain ⟨vs, Fs, ho, hl, hF, hn, he⟩ := h
  rcases ho.2 with ⟨rfl, hn0⟩ | ⟨g, cap, cur, rfl, _⟩
  · refine ⟨none, 0, by rw [hn0], by omega, fun i x hi => ?_⟩
    rw [List.eq_nil_of_length_eq_zero hn0] at hi; simp at hi
  · refine PairsAt.own ho rfl (fun i x hi => ?_)
    obtain ⟨u0, u1, Fi, h0, h1, h2, h3⟩ := he i x hi
    exact ⟨u0, u1, h0, h1, hq h3⟩
theorem AffsF.at {B : Nat} {w : World} {v : Value} {xs : List Aff} {F : List Nat} (h : AffsF B w v xs F) : AffsAt w v xs := PairsF.at' (fun h => ⟨h.1.1.at, h.2⟩) h
theorem LoopsF.at {B : Nat} {w : World} {v : Value} {xs : List Lp} {F : List Nat} (h : LoopsF B w v xs F) : LoopsAt w v xs :=
  PairsF.at' (fun h => by obtain ⟨_, _, _, _, h0, h1⟩ := h; exact ⟨h0.at, h1.at⟩) h
theorem PairsF.form {α : Type} {T : TypeId} {R : Nat → World → Value → Value → α → List Nat → Prop} {B : Nat} {w : World} {v : Value} {xs : List α} {F : List Nat} (h : PairsF T R B w v xs F) (h0 : 0 < xs.length) : ∃ g c, v = .slice (some ⟨g, 0, none⟩) xs.length c := by
  obtain ⟨vs, Fs, ho, _⟩ := h
  rcases ho.2 with ⟨_, hn0⟩ | ⟨g, cap, cur, e, _⟩
  · omega
  · exact ⟨g, cap, e⟩

end Go.Proofs.Ytccibfldadflkaa

namespace Go.Proofs.Ytccibfldadflkaa
open Go.RowKit

end Go.Proofs.Ytccibfldadflkaa

namespace Go.Proofs.Ytccibfldadflkaa
open Go.RowKit

theorem PairsF.push {α : Type} {T : TypeId} {R : Nat → World → Value → Value → α → List Nat → Prop} (hR : ∀ {B w w' u0 u1 x F G}, R B w u0 u1 x F → Kp G w w' → (∀ y ∈ F, y ∉ G) → R B w' u0 u1 x F) {B n : Nat} {w w' : World} {v v' u0 u1 : Value} {xs : List α} {x : α} {F Fx : List Nat} {vs : List Value} {Fs : List (List Nat)}
    (hxn' : xs.length = n) (hl : Fs.length = xs.length) (hF : F = v.ownBlock.toList ++ Fs.flatten) (hn : F.Nodup)
    (he : ∀ i x, xs[i]? = some x → ∃ u0 u1 Fi, vs[i * 2]? = some u0 ∧ vs[i * 2 + 1]? = some u1 ∧ Fs[i]? = some Fi ∧ R B w u0 u1 x Fi) (hvl : vs.length = n * 2)
    (ho' : w'.ownsRow B T 2 v' (n + 1) (vs ++ [u0, u1])) (hg : w.grownBy w' v.ownBlock) (hat : v'.ownBlock = v.ownBlock ∨ v'.ownBlock = some w.heap.size)
    (hx : R B w u0 u1 x Fx) (hxn : Fx.Nodup) (hxd : ∀ y ∈ Fx, y ∉ F) (hFlt : ∀ y ∈ F, y < w.heap.size) (hxlt : ∀ y ∈ Fx, y < w.heap.size) :
    ∃ F', PairsF T R B w' v' (xs ++ [x]) F' ∧ ∀ y ∈ F', y < w'.heap.size := by
  rw [hF] at hn
  have hna := List.nodup_append.1 hn
  have hk : Kp v.ownBlock.toList w w' := Kp.of_grown hg
  have hvF : ∀ y ∈ v.ownBlock.toList, y ∈ F := fun y hy => by rw [hF]; exact List.mem_append_left _ hy
  have hfF : ∀ y ∈ Fs.flatten, y ∈ F := fun y hy => by rw [hF]; exact List.mem_append_right _ hy
  refine ⟨v'.ownBlock.toList ++ (Fs ++ [Fx]).flatten, ⟨vs ++ [u0, u1], Fs ++ [Fx], ?_, ?_, rfl, ?_, ?_⟩, ?_⟩
  · rw [List.length_append, hxn']; exact ho'
  · simp [hl]
  · rw [List.flatten_append, List.flatten_cons, List.flatten_nil, List.append_nil]
    refine List.nodup_append.2 ⟨?_, List.nodup_append.2 ⟨hna.2.1, hxn, fun a ha b hb e => hxd b hb (by rw [← e]; exact hfF a ha)⟩, ?_⟩
    · cases v'.ownBlock with
      | none => exact List.nodup_nil
      | some b => simp
    · intro a ha b hb e
      subst e
      rcases hat with h | h
      · rw [h] at ha
        rcases List.mem_append.1 hb with hb | hb
        · exact hna.2.2 a ha a hb rfl
        · exact hxd a hb (hvF a ha)
      · rw [h, Option.mem_toList] at ha
        have ha' : w.heap.size = a := Option.some.inj ha
        rcases List.mem_append.1 hb with hb | hb
        · have := hFlt a (hfF a hb); omega
        · have := hxlt a hb; omega
  · intro i y hi
    rcases Nat.lt_or_ge i xs.length with hlt | hge
    · rw [List.getElem?_append_left hlt] at hi
      obtain ⟨t0, t1, Fi, g0, g1, g2, g3⟩ := he i y hi
      refine ⟨t0, t1, Fi, by rw [List.getElem?_append_left (by omega)]; exact g0, by rw [List.getElem?_append_left (by omega)]; exact g1, by rw [List.getElem?_append_left (by omega)]; exact g2, hR g3 hk (fun z hz hz' => hna.2.2 z hz' z (mem_flat g2 hz) rfl)⟩
    · rw [List.getElem?_append_right hge] at hi
      have hi0 : i - xs.length = 0 := by
        rcases Nat.eq_zero_or_pos (i - xs.length) with h | h
        · exact h
        · rw [List.getElem?_eq_none (by simp; omega)] at hi; cases hi
      rw [hi0] at hi
      simp at hi
      subst hi
      have hin : i = n := by omega
      subst hin
      exact ⟨u0, u1, Fx, by rw [List.getElem?_append_right (by omega)]; simp [hvl], by rw [List.getElem?_append_right (by omega), hvl]; simp [show i * 2 + 1 - i * 2 = 1 by omega], by rw [List.getElem?_append_right (by omega)]; simp [hl, hxn'], hR hx hk (fun z hz hz' => hxd z hz (hvF z hz'))⟩
  · intro y hy
    rw [List.flatten_append, List.flatten_cons, List.flatten_nil, List.append_nil] at hy
    have hs := hk.size
    rcases List.mem_append.1 hy with hy | hy
    · rw [Option.mem_toList] at hy
      exact (ho'.lt y hy).2
    · rcases List.mem_append.1 hy with hy | hy
      · have := hFlt y (hfF y hy); omega
      · have := hxlt y hy; omega

/-- A side with one bound. -/
theorem AffsF.one {B g c : Nat} {w : World} {u0 : Value} {xs : List Int} {k : Int} {Fi : List Nat} (ho : w.ownsRow B 36 2 (.slice (some ⟨g, 0, none⟩) 1 c) 1 [u0, .int .i64 k]) (hi : IntsF B w u0 xs Fi) (hn : Fi.Nodup) (hg : g ∉ Fi) : AffsF B w (.slice (some ⟨g, 0, none⟩) 1 c) [(xs, k)] ([g] ++ Fi) := by
  refine ⟨[u0, .int .i64 k], [Fi], ho, rfl, by simp [Value.ownBlock], ?_, fun i x hx => ?_⟩
  · exact List.nodup_append.2 ⟨by simp, hn, fun a ha b hb e => by simp at ha; rw [ha] at e; exact hg (by rw [e]; exact hb)⟩
  · match i, hx with
    | 0, hx => simp at hx; subst hx; exact ⟨u0, _, Fi, rfl, rfl, rfl, hi, rfl⟩

theorem IntsF.weak {B B' : Nat} {w : World} {v : Value} {xs : List Int} {F : List Nat} (h : IntsF B w v xs F) (hB : B' ≤ B) : IntsF B' w v xs F := ⟨h.1.weak hB, h.2⟩
theorem AffsF.weak {B B' : Nat} {w : World} {v : Value} {xs : List Aff} {F : List Nat} (h : AffsF B w v xs F) (hB : B' ≤ B) : AffsF B' w v xs F := by
  obtain ⟨vs, Fs, ho, hl, hF, hn, he⟩ := h
  refine ⟨vs, Fs, ownsRow_weak ho hB, hl, hF, hn, fun i x hi => ?_⟩
  obtain ⟨u0, u1, Fi, h0, h1, h2, h3⟩ := he i x hi
  exact ⟨u0, u1, Fi, h0, h1, h2, h3.1.weak hB, h3.2⟩
end Go.Proofs.Ytccibfldadflkaa

namespace Go.Proofs.Ytccibfldadflkaa
open Go.RowKit

theorem LoopsF.nil (B : Nat) (w : World) : LoopsF B w (.slice none 0 0) [] [] := ⟨[], [], World.ownsRow_nil _ _ _ _, rfl, rfl, List.nodup_nil, fun i x hi => by simp at hi⟩
theorem PairsF.slice {α : Type} {T : TypeId} {R : Nat → World → Value → Value → α → List Nat → Prop} {B : Nat} {w : World} {v : Value} {xs : List α} {F : List Nat} (h : PairsF T R B w v xs F) : ∃ p c, v = .slice p xs.length c := by
  obtain ⟨vs, Fs, ho, _⟩ := h
  rcases ho.2 with ⟨rfl, hn0⟩ | ⟨g, cap, cur, e, _⟩
  · exact ⟨none, 0, by rw [hn0]⟩
  · exact ⟨_, cap, e⟩

end Go.Proofs.Ytccibfldadflkaa

/- Ranges over functions whose element lies in a block of the round's own: V1's law with an assignment that lays blocks. No statement is proved here. -/
namespace Go.Proofs.Ytccibfldadflkaa
open Go.RowKit

theorem Grew.refl (own : List Nat) (W : World) (h : ∀ b ∈ own, b < W.heap.size) : Grew own own W W := ⟨Lv.refl _ W, fun b hb => ⟨.inl hb, h b hb⟩⟩
theorem Grew.trans {o1 o2 o3 : List Nat} {A B C : World} (h : Grew o1 o2 A B) (k : Grew o2 o3 B C) : Grew o1 o3 A C := by
  refine ⟨h.1.trans k.1 (fun _ _ e => e) (fun b hb e => ?_), fun b hb => ?_⟩
  · rcases (h.2 b e).1 with h' | h'
    · exact h'
    · omega
  · obtain ⟨h1, h2⟩ := k.2 b hb
    refine ⟨?_, h2⟩
    rcases h1 with h1 | h1
    · exact (h.2 b h1).1
    · have := h.1.size; exact .inr (by omega)
theorem Grew.alloc (own : List Nat) (W : World) (o : Obj) (h : ∀ b ∈ own, b < W.heap.size) : Grew own own W (W.alloc o) := ⟨Lv.alloc _ W o, fun b hb => ⟨.inl hb, by have := h b hb; simp; omega⟩⟩
theorem Grew.same {own : List Nat} {W W' : World} (h : Lv (fun k => k ∈ own) W W') (hb : ∀ b ∈ own, b < W.heap.size) : Grew own own W W' := ⟨h, fun b k => ⟨.inl k, by have := hb b k; have := h.size; omega⟩⟩
theorem Grew.pre {own own' : List Nat} {A B C : World} (h : Lv (fun _ => False) A B) (k : Grew own own' B C) : Grew own own' A C :=
  ⟨h.trans k.1 (fun _ _ h => h.elim) (fun _ _ h => h), fun b hb => by
    obtain ⟨h1, h2⟩ := k.2 b hb
    have := h.size
    exact ⟨h1.imp id (fun h => by omega), h2⟩⟩
end Go.Proofs.Ytccibfldadflkaa
