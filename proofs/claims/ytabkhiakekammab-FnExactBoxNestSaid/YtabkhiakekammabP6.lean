/- BoxNest, the model's. -/
import Derived.Test.YtabkhiakekammabP5
import Derived.Test.YtabkhiakekammabA17
namespace Go.Proofs.Ytabkhiakekammab
open Go.RowKit

theorem LoopsF.nil' {B g c : Nat} {w : World} (h : w.ownsRow B 48 2 (.slice (some ⟨g, 0, none⟩) 0 c) 0 []) : LoopsF B w (.slice (some ⟨g, 0, none⟩) 0 c) [] [g] := ⟨[], [], h, rfl, rfl, by simp, fun i x hi => by simp at hi⟩
theorem BoxRet.no' {B g c : Nat} {w' : World} {ns : List Int} (h : boxB ns = false) (ho : w'.ownsRow B 48 2 (.slice (some ⟨g, 0, none⟩) 0 c) 0 []) : BoxRet B w' (.returned (.tuple #[.slice (some ⟨g, 0, none⟩) 0 c, .bool false])) ns :=
  ⟨some ⟨g, 0, none⟩, c, [g], by rw [boxL_no h, h]; rfl, by rw [boxL_no h]; exact LoopsF.nil' ho, fun y hy => by simp at hy; rw [hy]; exact ho.lt g rfl⟩

theorem aff_row {B a : Nat} {w : World} {u0 u1 : Value} (h : w.heap[a]? = some (.cells #[u0, u1] 57 (0, 0))) (hB : B ≤ a) : w.ownsRow B 57 2 (.slice (some ⟨a, 0, none⟩) 1 1) 1 [u0, u1] :=
  ⟨rfl, .inr ⟨a, 1, _, rfl, hB, h, Nat.le_refl _, by unfold maxLen; omega, rfl, rfl⟩⟩

/-- Two sides, in whatever order they were laid. -/
theorem boxStep {B N a b g1 g2 c1 c2 : Nat} {w : World} {x : Int} (ha : w.heap[a]? = some (.cells #[.slice (some ⟨g1, 0, none⟩) 4 c1, .int .i64 0] 57 (0, 0))) (hb : w.heap[b]? = some (.cells #[.slice (some ⟨g2, 0, none⟩) 4 c2, .int .i64 x] 57 (0, 0)))
    (h1 : IntsOwn N w (.slice (some ⟨g1, 0, none⟩) 4 c1) [0, 0, 0, 0]) (h2 : IntsOwn N w (.slice (some ⟨g2, 0, none⟩) 4 c2) [0, 0, 0, 0]) (hab : a ≠ b) (hg : g1 ≠ g2) (hBN : B ≤ N) (haN : N ≤ a) (hbN : N ≤ b) :
    LoopF B w (.slice (some ⟨a, 0, none⟩) 1 1) (.slice (some ⟨b, 0, none⟩) 1 1) (boxLp x) ([a] ++ [g1] ++ ([b] ++ [g2])) ∧ ([a] ++ [g1] ++ ([b] ++ [g2])).Nodup ∧ (∀ y ∈ [a] ++ [g1] ++ ([b] ++ [g2]), N ≤ y ∧ y < w.heap.size) := by
  have n1 : g1 ≠ a := own_ne h1 ha
  have n2 : g1 ≠ b := own_ne h1 hb
  have n3 : g2 ≠ a := own_ne h2 ha
  have n4 : g2 ≠ b := own_ne h2 hb
  have hnd : ([a] ++ [g1] ++ ([b] ++ [g2])).Nodup := by
    simp only [List.cons_append, List.nil_append, List.nodup_cons, List.mem_cons, List.not_mem_nil, or_false, not_or, not_false_eq_true, List.nodup_nil, and_true]
    exact ⟨⟨fun e => n1 e.symm, hab, fun e => n3 e.symm⟩, ⟨n2, hg⟩, fun e => n4 e.symm⟩
  refine ⟨⟨[a] ++ [g1], [b] ++ [g2], rfl, hnd, ?_, ?_⟩, hnd, ?_⟩
  · exact AffsF.one (aff_row ha (by omega)) ⟨h1.weak hBN, by simp [Value.ownBlock]⟩ (by simp) (by simp; exact fun e => n1 e.symm)
  · exact AffsF.one (aff_row hb (by omega)) ⟨h2.weak hBN, by simp [Value.ownBlock]⟩ (by simp) (by simp; exact fun e => n4 e.symm)
  · intro y hy
    simp at hy
    rcases hy with rfl | rfl | rfl | rfl
    · exact ⟨haN, lt_of_block ha⟩
    · exact h1.lt _ rfl
    · exact ⟨hbN, lt_of_block hb⟩
    · exact h2.lt _ rfl
end Go.Proofs.Ytabkhiakekammab
