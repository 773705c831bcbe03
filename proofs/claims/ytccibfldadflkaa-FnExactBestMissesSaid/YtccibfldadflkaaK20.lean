/- The texts R14, joined. No statement is proved here. -/
import Derived.Test.YtccibfldadflkaaK19
/- The program's NestPoints: the consumer of the iterator. No statement is proved here. -/
namespace Go.Proofs.Ytccibfldadflkaa
open Go.RowKit
attribute [local go_sem] Oper.semAt_some

/-- What the consumer's boxes hold. -/
def NpI (N1 R1 R2 P V B n c : Nat) (pn : Option Addr) (s : List (List Int)) (own : List Nat) (X : World) : Prop :=
  ∃ own1 v, own = N1 :: R1 :: R2 :: P :: V :: own1 ∧ (∀ b ∈ own1, B ≤ b ∧ b ≠ N1 ∧ b ≠ R1 ∧ b ≠ R2 ∧ b ≠ P ∧ b ≠ V) ∧ X.heap[N1]? = some (.cells #[.slice pn n c] 34 (0, 0)) ∧ X.heap[R1]? = some (.cells #[.slice none 0 0] 44 (0, 0)) ∧ X.heap[R2]? = some (.cells #[.bool false] 4 (0, 0)) ∧
    X.heap[V]? = some (.cells #[.int .i64 (s.length : Nat)] 3 (0, 0)) ∧ s.length ≤ 1200 ∧ (s.filter (fun x => decide (x.length = n))).length ≤ 120 ∧
    X.heap[P]? = some (.cells #[v] 44 (0, 0)) ∧ PtsD own1 B X v (s.filter (fun x => decide (x.length = n)))
/-- What they hold when a limit is passed. -/
def NpX (R1 R2 n : Nat) (cd : Code) (s : List (List Int)) (own : List Nat) (X : World) : Prop :=
  cd = .ret ∧ R1 ∈ own ∧ R2 ∈ own ∧ X.heap[R1]? = some (.cells #[.slice none 0 0] 44 (0, 0)) ∧ X.heap[R2]? = some (.cells #[.bool false] 4 (0, 0)) ∧ (1200 < s.length ∨ 120 < (s.filter (fun x => decide (x.length = n))).length)
theorem lv_own {own : List Nat} {X X' : World} (hv : Lv (fun k => k ∉ own) X X') {k : Nat} {o : Obj} (h : X.heap[k]? = some o) (hk : k ∈ own) : X'.heap[k]? = some o := hv.heap h (fun h => h hk)
theorem NpI.stable (N1 R1 R2 P V B n c : Nat) (pn : Option Addr) : Stable (NpI N1 R1 R2 P V B n c pn) := by
  rintro s own X X' ⟨own1, v, rfl, h2, h3, h4, h5, h6, h7, h8, h9, h10⟩ hv
  exact ⟨own1, v, rfl, h2, lv_own hv h3 (by simp), lv_own hv h4 (by simp), lv_own hv h5 (by simp), lv_own hv h6 (by simp), h7, h8, lv_own hv h9 (by simp), h10.lv (hv.mono (fun b _ h h' => h (by simp [h'])))⟩
theorem NpX.stable (R1 R2 n : Nat) (cd : Code) : Stable (NpX R1 R2 n cd) := by
  rintro s own X X' ⟨h1, h2, h3, h5, h6, h7⟩ hv
  exact ⟨h1, h2, h3, lv_own hv h5 h2, lv_own hv h6 h3, h7⟩
theorem blk1 {W : World} {g : Nat} {a : Value} {t : TypeId} (h : W.heap[g]? = some (.cells #[a] t (0, 0))) : W.cell? ⟨g, 0, none⟩ = some a ∧ W.frozen? ⟨g, 0, none⟩ = false := by
  simp [World.cell?, World.frozen?, h]
theorem blk1_set {W : World} {g : Nat} {a b : Value} {t : TypeId} (h : W.heap[g]? = some (.cells #[a] t (0, 0))) : (W.setCell ⟨g, 0, none⟩ b).heap[g]? = some (.cells #[b] t (0, 0)) := by
  simpa using heap_setCell_same W g 0 #[a] t b h

theorem lv_set (W : World) (g o : Nat) (u : Value) : Lv (fun k => k = g) W (W.setCell ⟨g, o, none⟩ u) := Lv.grown (grown_set W g o u) (fun _ e _ => (Option.some.inj e).symm)
end Go.Proofs.Ytccibfldadflkaa
