/- Numbers and terms as bytes: plain lists. No statement is proved here. -/
import Derived.Test.YtclgbnilfipobabT1
import Derived.Lib.ItoaNum
namespace Go.Proofs.Ytclgbnilfipobab
open Go.RowKit

/-- The digits of a number of at most two digits. -/
def dg (u : Nat) : List UInt8 := if u < 10 then [UInt8.ofNat (48 + u)] else [UInt8.ofNat (48 + u / 10), UInt8.ofNat (48 + u % 10)]
theorem dg_len (u : Nat) : 1 ≤ (dg u).length ∧ (dg u).length ≤ 2 := by unfold dg; split <;> simp
theorem decDigits_two {u : Nat} (h : u ≤ 99) : Lib.decDigits u = dg u := by
  unfold dg
  rw [Lib.decDigits]
  split
  · rfl
  · rename_i h1
    rw [Lib.decDigits, dif_pos (by omega)]
    rfl
theorem ofNat_ne45 : ∀ d : Nat, d ≤ 9 → UInt8.ofNat (48 + d) ≠ 45 := by
  intro d hd
  match d, hd with
  | 0, _ => decide
  | 1, _ => decide
  | 2, _ => decide
  | 3, _ => decide
  | 4, _ => decide
  | 5, _ => decide
  | 6, _ => decide
  | 7, _ => decide
  | 8, _ => decide
  | 9, _ => decide
theorem dg_no {u : Nat} (h : u ≤ 99) : Lib.trimPrefix (dg u) [45] = dg u := by
  unfold Lib.trimPrefix Lib.hasPrefix dg
  split
  · rename_i h1
    rw [if_neg]
    simp only [List.isPrefixOf, Bool.and_eq_true, beq_iff_eq, not_and]
    intro e
    exact absurd e.symm (ofNat_ne45 u (by omega))
  · rename_i h1
    rw [if_neg]
    simp only [List.isPrefixOf, Bool.and_eq_true, beq_iff_eq, not_and]
    intro e
    exact absurd e.symm (ofNat_ne45 (u / 10) (by omega))
theorem digits_eq {n : Int} (h : -99 ≤ n ∧ n ≤ 99) : Lib.trimPrefix (Lib.itoa n) [45] = dg n.natAbs := by
  unfold Lib.itoa
  split
  · rename_i h1
    rw [decDigits_two (by omega)]
    unfold Lib.trimPrefix Lib.hasPrefix
    rw [if_pos (by simp [List.isPrefixOf])]
    rfl
  · rename_i h1
    rw [decDigits_two (by omega), dg_no (by omega)]
    congr 1
    omega

def sgn (n : Int) : UInt8 := if n < 0 then 45 else 43
def tm (v : Nat) (n : Int) : List UInt8 := sgn n :: (if n.natAbs = 1 then [] else dg n.natAbs ++ [42]) ++ [UInt8.ofNat (105 + v)]
def tc (k : Int) : List UInt8 := sgn k :: dg k.natAbs
def rawC : Nat → List Int → List UInt8
  | _, [] => []
  | v, x :: xs => (if x = 0 then [] else tm v x) ++ rawC (v + 1) xs
def raw (xs : List Int) (k : Int) : List UInt8 := rawC 0 xs ++ (if k = 0 then [] else tc k)
/-- Without the '+' at the beginning. -/
def strip : List UInt8 → List UInt8
  | 43 :: l => l
  | l => l
def txt (xs : List Int) (k : Int) : List UInt8 := if raw xs k = [] then [48] else strip (raw xs k)
/-- What writeSign makes of l. -/
def ws (l : List UInt8) (n : Int) : List UInt8 := if n < 0 then l ++ [45] else if l.length = 0 then l else l ++ [43]

theorem rawC_app (v : Nat) (xs ys : List Int) : rawC v (xs ++ ys) = rawC v xs ++ rawC (v + xs.length) ys := by
  induction xs generalizing v with
  | nil => simp [rawC]
  | cons x xs ih => simp only [List.cons_append, rawC, List.append_assoc, List.length_cons]; rw [ih]; congr 3; omega
theorem rawC_take {xs : List Int} {k : Nat} {x : Int} (h : xs[k]? = some x) : rawC 0 (xs.take (k + 1)) = rawC 0 (xs.take k) ++ (if x = 0 then [] else tm k x) := by
  have hk := (List.getElem?_eq_some_iff.1 h).1
  rw [take_next h, rawC_app, List.length_take, Nat.min_eq_left (by omega)]
  simp [rawC]
/-- A text whose every term begins with its sign, and has more than it. -/
def Sg (l : List UInt8) : Prop := l = [] ∨ ∃ c d r, l = c :: d :: r ∧ (c = 43 ∨ c = 45)
theorem strip_app {l t : List UInt8} {n : Int} {r : List UInt8} (hl : Sg l) (ht : t = sgn n :: r) : strip (l ++ t) = ws (strip l) n ++ r := by
  subst ht
  rcases hl with rfl | ⟨c, d, r', rfl, hc⟩
  · by_cases hn : n < 0
    · simp [strip, ws, sgn, hn]
    · simp [strip, ws, sgn, hn]
  · rcases hc with rfl | rfl
    · by_cases hn : n < 0
      · simp [strip, ws, sgn, hn]
      · simp [strip, ws, sgn, hn]
    · by_cases hn : n < 0
      · simp [strip, ws, sgn, hn]
      · simp [strip, ws, sgn, hn]
theorem dg_cons (u : Nat) : ∃ d r, dg u = d :: r := by unfold dg; split <;> exact ⟨_, _, rfl⟩
theorem tm_sg (v : Nat) (n : Int) : ∃ d r, tm v n = sgn n :: d :: r := by
  unfold tm
  obtain ⟨d, r, h⟩ := dg_cons n.natAbs
  split
  · exact ⟨_, _, rfl⟩
  · rw [h]; exact ⟨_, _, rfl⟩
theorem sgn_or (n : Int) : sgn n = 43 ∨ sgn n = 45 := by unfold sgn; split <;> simp
theorem Sg.app {l t : List UInt8} (hl : Sg l) (ht : Sg t) : Sg (l ++ t) := by
  rcases hl with rfl | ⟨c, d, r, rfl, hc⟩
  · simpa using ht
  · exact .inr ⟨c, d, r ++ t, rfl, hc⟩
theorem rawC_sg (v : Nat) (xs : List Int) : Sg (rawC v xs) := by
  induction xs generalizing v with
  | nil => exact .inl rfl
  | cons x xs ih =>
    simp only [rawC]
    refine Sg.app ?_ (ih _)
    split
    · exact .inl rfl
    · obtain ⟨d, r, h⟩ := tm_sg v x
      exact .inr ⟨_, _, _, h, sgn_or x⟩
theorem tm_len (v : Nat) (n : Int) : (tm v n).length ≤ 5 := by
  unfold tm
  have := dg_len n.natAbs
  split <;> simp <;> omega
theorem rawC_len (v : Nat) (xs : List Int) : (rawC v xs).length ≤ 5 * xs.length := by
  induction xs generalizing v with
  | nil => simp [rawC]
  | cons x xs ih =>
    simp only [rawC, List.length_append, List.length_cons]
    have h1 := ih (v + 1)
    have h2 := tm_len v x
    split <;> simp <;> omega
theorem strip_len (l : List UInt8) : (strip l).length ≤ l.length := by unfold strip; split <;> simp
theorem ws_len (l : List UInt8) (n : Int) : (ws l n).length ≤ l.length + 1 := by unfold ws; split; simp; split <;> simp
theorem strip_nil {l : List UInt8} (h : Sg l) : (strip l).length = 0 ↔ l = [] := by
  rcases h with rfl | ⟨c, d, r, rfl, hc⟩
  · simp [strip]
  · rcases hc with rfl | rfl <;> simp [strip]
end Go.Proofs.Ytclgbnilfipobab
