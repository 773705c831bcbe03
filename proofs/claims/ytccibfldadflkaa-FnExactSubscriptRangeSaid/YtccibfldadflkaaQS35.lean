/- The texts V3, joined. No statement is proved here. -/
import Derived.Test.YtccibfldadflkaaQS34
/- Ranges over functions whose element lies in a block of the round's own: V1's law with an assignment that lays blocks. No statement is proved here. -/
namespace Go.Proofs.Ytccibfldadflkaa
open Go.RowKit

theorem Grew.refl (own : List Nat) (W : World) (h : ∀ b ∈ own, b < W.heap.size) : Grew own own W W := ⟨Lv.refl _ W, fun b hb => ⟨.inl hb, h b hb⟩⟩
theorem Grew.trans {o1 o2 o3 : List Nat} {A B C : World} (h : Grew o1 o2 A B) (k : Grew o2 o3 B C) : Grew o1 o3 A C := by
  refine ⟨h.1.trans k.1 (fun _ _ e => e) (fun b hb e => ?_), fun b hb => ?_⟩
  · rcases (h.2 b e).1 with h' | h'
    · exact h'
    · omega
  · obtain ⟨h1, h2⟩ := k.2 b hb
    refine ⟨?_, h2⟩
    rcases h1 with h1 | h1
    · exact (h.2 b h1).1
    · have := h.1.size; exact .inr (by omega)
theorem Grew.alloc (own : List Nat) (W : World) (o : Obj) (h : ∀ b ∈ own, b < W.heap.size) : Grew own own W (W.alloc o) := ⟨Lv.alloc _ W o, fun b hb => ⟨.inl hb, by have := h b hb; simp; omega⟩⟩
theorem Grew.same {own : List Nat} {W W' : World} (h : Lv (fun k => k ∈ own) W W') (hb : ∀ b ∈ own, b < W.heap.size) : Grew own own W W' := ⟨h, fun b k => ⟨.inl k, by have := hb b k; have := h.size; omega⟩⟩
theorem Grew.pre {own own' : List Nat} {A B C : World} (h : Lv (fun _ => False) A B) (k : Grew own own' B C) : Grew own own' A C :=
  ⟨h.trans k.1 (fun _ _ h => h.elim) (fun _ _ h => h), fun b hb => by
    obtain ⟨h1, h2⟩ := k.2 b hb
    have := h.size
    exact ⟨h1.imp id (fun h => by omega), h2⟩⟩
end Go.Proofs.Ytccibfldadflkaa
