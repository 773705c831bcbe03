/- Contracts: marks in an affine expression; what stays beside them. -/
import Derived.Test.YtcpbfefgjpimiaaA10
namespace Go.Proofs.Ytcpbfefgjpimiaa
open Go.RowKit

set_option maxHeartbeats 1000000 in
theorem markAffine_any (B : Nat) (p : Option Addr) (n c : Nat) (xs : List Int) (m k : Int) (w : World) (hn : xs.length = n) (ho : w.ownsRow B 3 1 (.slice p n c) n (xs.map (Value.int .i64))) (hk : 0 ≤ k) (hk1 : k + n ≤ 1000000000000) :
    Calls Try.prog 65 #[.agg #[.slice p n c, .int .i64 m], .int .i64 k] w fun e w' => e = .returned (.int .i64 (k + n)) ∧ w'.ownsRow B 3 1 (.slice p n c) n ((marks k n).map (Value.int .i64)) ∧ w.grownBy w' (Value.slice p n c).ownBlock := by
  have HO := Lib.hid ho; clear ho
  have HN := Lib.hid hn; clear hn
  go_enter Try.func65, Try.ntmps65
  go_wp2_with (fail)
  refine (markIntS_any B p n c xs k _ HN.out (HO.out.alloc _) hk hk1).mono ?_
  rintro e W1 ⟨rfl, h1, h2⟩
  have H1 := Lib.hid h1
  have H2 := Lib.hid (grownBy_trans (World.grownBy_alloc w _ _) h2)
  clear h1 h2
  go_wp2
  go_ret
  exact ⟨rfl, H1.out, H2.out⟩

theorem IntsOwn.row {B n : Nat} {w : World} {v : Value} {xs : List Int} (h : IntsOwn B w v xs) (hn : xs.length = n) : w.ownsRow B 3 1 v n (xs.map (Value.int .i64)) := by
  unfold IntsOwn at h; rwa [hn] at h
theorem own_block_ge {B : Nat} {w : World} {v : Value} {xs : List Int} (h : IntsOwn B w v xs) {b : Nat} (hb : b < B) : some b ≠ v.ownBlock := by
  intro e
  have := (h.lt b e.symm).1
  omega
/-- A row of the call's own stays where another one, made later, is written. -/
theorem IntsOwn.beside {B B' : Nat} {w w' : World} {v u : Value} {xs ys : List Int} (h : IntsOwn B w v xs) (hu : IntsOwn B' w u ys) (hv : ∀ b, v.ownBlock = some b → b < B') (hg : w.grownBy w' u.ownBlock) : IntsOwn B w' v xs := by
  refine World.ownsRow.kept h hg ?_
  cases hb : v.ownBlock with
  | none => exact .inl rfl
  | some b => exact .inr (own_block_ge hu (hv b hb))
theorem affEqB_self (xs : List Int) (c : Int) : affEqB xs c xs c = true := by simp [affEqB, eqB]
theorem IntsOwn.block_lt {B : Nat} {w : World} {v : Value} {xs : List Int} (h : IntsOwn B w v xs) : ∀ b, v.ownBlock = some b → b < w.heap.size := fun b hb => (h.lt b hb).2
end Go.Proofs.Ytcpbfefgjpimiaa
