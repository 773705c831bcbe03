/- Points of a nest: how many iterations, which points; bounds of coordinates. No statement is proved here. -/
import Derived.Test.YtabkhiakekammaaN13
import Derived.Test.YtabkhiakekammaaN14
namespace Go.Proofs.Ytabkhiakekammaa
open Go.RowKit

theorem mulm {a x m : Int} (h1 : -9 ≤ a) (h2 : a ≤ 9) (h3 : -m ≤ x) (h4 : x ≤ m) : -(9 * m) ≤ a * x ∧ a * x ≤ 9 * m := by
  constructor
  · have := Int.mul_nonneg (a := a + 9) (b := m + x) (by omega) (by omega)
    have := Int.mul_nonneg (a := 9 - a) (b := m - x) (by omega) (by omega)
    simp only [Int.add_mul, Int.mul_add, Int.sub_mul, Int.mul_sub] at *
    omega
  · have := Int.mul_nonneg (a := a + 9) (b := m - x) (by omega) (by omega)
    have := Int.mul_nonneg (a := 9 - a) (b := m + x) (by omega) (by omega)
    simp only [Int.add_mul, Int.mul_add, Int.sub_mul, Int.mul_sub] at *
    omega
/-- How far a coordinate can be from zero. -/
def bnd : Nat → Int
  | 0 => 99
  | 1 => 990
  | 2 => 9900
  | _ => 99000
def PB (ps : List Int) : Prop := ∀ i x, ps[i]? = some x → -bnd i ≤ x ∧ x ≤ bnd i
theorem PB.nil : PB [] := fun i x h => by simp at h
theorem PB.push {ps : List Int} {v : Int} (h : PB ps) (h0 : -bnd ps.length ≤ v) (h1 : v ≤ bnd ps.length) : PB (ps ++ [v]) := fun i x hi => by
  rcases Nat.lt_or_ge i ps.length with hl | hl
  · rw [List.getElem?_append_left hl] at hi; exact h i x hi
  · rw [List.getElem?_append_right hl] at hi
    have hi0 : i - ps.length = 0 := by
      rcases Nat.eq_zero_or_pos (i - ps.length) with h | h
      · exact h
      · rw [List.getElem?_eq_none (by simp; omega)] at hi; cases hi
    rw [hi0] at hi
    simp at hi
    subst hi
    rw [show i = ps.length by omega]
    exact ⟨h0, h1⟩
theorem PB.pt {ps : List Int} (h : PB ps) (hl : ps.length ≤ 3) : ptB ps = true := by
  simp only [ptB, Bool.and_eq_true, decide_eq_true_eq, List.all_eq_true]
  refine ⟨by omega, fun x hx => ?_⟩
  obtain ⟨i, hi⟩ := List.mem_iff_getElem?.1 hx
  have h1 := h i x hi
  have hi3 : i < 3 := by have := (List.getElem?_eq_some_iff.1 hi).1; omega
  refine withinB_iff.2 ?_
  match i, hi3, h1 with
  | 0, _, h1 => simp only [bnd] at h1; omega
  | 1, _, h1 => simp only [bnd] at h1; omega
  | 2, _, h1 => simp only [bnd] at h1; omega
theorem evalA_bd {a : Aff} {ps : List Int} (hv : affValidB a.1 a.2 = true) (h : PB ps) (hl : ps.length ≤ 3) : -bnd ps.length ≤ evalA ps a ∧ evalA ps a ≤ bnd ps.length := by
  obtain ⟨xs, k⟩ := a
  obtain ⟨a0, a1, a2, a3, e, ⟨l0, u0⟩, ⟨l1, u1⟩, ⟨l2, u2⟩, ⟨l3, u3⟩, ⟨lk, uk⟩⟩ := valid_four hv
  simp only at e lk uk
  subst e
  match ps, hl with
  | [], _ => simp only [evalA, evalK, bnd, List.length_nil]; omega
  | [x0], _ =>
    have h0 := h 0 x0 rfl
    simp only [bnd] at h0
    have m0 := mulm l0 u0 h0.1 h0.2
    simp [evalA, evalK, bnd]; omega
  | [x0, x1], _ =>
    have h0 := h 0 x0 rfl
    have h1 := h 1 x1 rfl
    simp only [bnd] at h0 h1
    have m0 := mulm l0 u0 h0.1 h0.2
    have m1 := mulm l1 u1 h1.1 h1.2
    simp [evalA, evalK, bnd]; omega
  | [x0, x1, x2], _ =>
    have h0 := h 0 x0 rfl
    have h1 := h 1 x1 rfl
    have h2 := h 2 x2 rfl
    simp only [bnd] at h0 h1 h2
    have m0 := mulm l0 u0 h0.1 h0.2
    have m1 := mulm l1 u1 h1.1 h1.2
    have m2 := mulm l2 u2 h2.1 h2.2
    simp [evalA, evalK, bnd]; omega
theorem maxL_bd {ys : List Int} {m : Int} (h0 : 0 < ys.length) (h2 : ys.length ≤ 2) (h : ∀ y ∈ ys, -m ≤ y ∧ y ≤ m) : -m ≤ maxL ys ∧ maxL ys ≤ m := by
  match ys, h0, h2 with
  | [a], _, _ => have := h a (by simp); simpa [maxL] using this
  | [a, b], _, _ =>
    have ha := h a (by simp)
    have hb := h b (by simp)
    simp only [maxL, List.foldl_cons, List.foldl_nil]
    split <;> omega
theorem minL_bd {ys : List Int} {m : Int} (h0 : 0 < ys.length) (h2 : ys.length ≤ 2) (h : ∀ y ∈ ys, -m ≤ y ∧ y ≤ m) : -m ≤ minL ys ∧ minL ys ≤ m := by
  match ys, h0, h2 with
  | [a], _, _ => have := h a (by simp); simpa [minL] using this
  | [a, b], _, _ =>
    have ha := h a (by simp)
    have hb := h b (by simp)
    simp only [minL, List.foldl_cons, List.foldl_nil]
    split <;> omega
theorem lo_bd {x : Lp} {ps : List Int} (hx : sideOk x.1) (h : PB ps) (hl : ps.length ≤ 3) : -bnd ps.length ≤ loV x ps ∧ loV x ps ≤ bnd ps.length :=
  maxL_bd (by rw [List.length_map]; exact hx.1) (by rw [List.length_map]; exact hx.2.1) (fun y hy => by
    obtain ⟨a, ha, rfl⟩ := List.mem_map.1 hy
    exact evalA_bd (hx.2.2 a ha) h hl)
theorem hi_bd {x : Lp} {ps : List Int} (hx : sideOk x.2) (h : PB ps) (hl : ps.length ≤ 3) : -bnd ps.length ≤ hiV x ps ∧ hiV x ps ≤ bnd ps.length :=
  minL_bd (by rw [List.length_map]; exact hx.1) (by rw [List.length_map]; exact hx.2.1) (fun y hy => by
    obtain ⟨a, ha, rfl⟩ := List.mem_map.1 hy
    exact evalA_bd (hx.2.2 a ha) h hl)
theorem bnd_le (i : Nat) : 0 ≤ bnd i ∧ bnd i ≤ 99000 := by unfold bnd; split <;> omega

/-- The iterations that are counted, up to a limit. -/
def workLoop (f : Int → Int → Int) (most : Int) : Nat → Int → Int → Int
  | 0, _, n => n
  | k + 1, v, n => if n ≤ most then workLoop f most k (v + 1) (n + f v (most - n)) else n
def lpAt (ls : List Lp) (ps : List Int) : Lp := ls.getD ps.length ([], [])
def work (ls : List Lp) : Nat → List Int → Int → Int
  | 0, _, _ => 1
  | d + 1, ps, most => workLoop (fun v m => work ls d (ps ++ [v]) m) most (hiV (lpAt ls ps) ps - loV (lpAt ls ps) ps).toNat (loV (lpAt ls ps) ps) 1
theorem workLoop_bd {f : Int → Int → Int} {most D : Int} (hf : ∀ v m, 0 ≤ m → 1 ≤ f v m ∧ f v m ≤ m + D) : ∀ (k : Nat) (v n : Int), 1 ≤ n → n ≤ most + D → 1 ≤ workLoop f most k v n ∧ workLoop f most k v n ≤ most + D
  | 0, v, n, h1, h2 => ⟨h1, h2⟩
  | k + 1, v, n, h1, h2 => by
    simp only [workLoop]
    split
    · have := hf v (most - n) (by omega)
      exact workLoop_bd hf k _ _ (by omega) (by omega)
    · exact ⟨h1, h2⟩
theorem work_bd (ls : List Lp) : ∀ (d : Nat) (ps : List Int) (most : Int), 0 ≤ most → 1 ≤ work ls d ps most ∧ work ls d ps most ≤ most + (d + 1)
  | 0, _, most, h => by simp only [work]; omega
  | d + 1, ps, most, h => by
    show 1 ≤ workLoop (fun v m => work ls d (ps ++ [v]) m) most (hiV (lpAt ls ps) ps - loV (lpAt ls ps) ps).toNat (loV (lpAt ls ps) ps) 1 ∧ workLoop (fun v m => work ls d (ps ++ [v]) m) most (hiV (lpAt ls ps) ps - loV (lpAt ls ps) ps).toNat (loV (lpAt ls ps) ps) 1 ≤ most + (((d + 1 : Nat) : Int) + 1)
    have h1 := workLoop_bd (f := fun v m => work ls d (ps ++ [v]) m) (most := most) (D := (d : Int) + 1) (fun v m hm => work_bd ls d (ps ++ [v]) m hm) (hiV (lpAt ls ps) ps - loV (lpAt ls ps) ps).toNat (loV (lpAt ls ps) ps) 1 (by omega) (by omega)
    omega

/-- The points, as long as there are not too many. -/
def ptsLoop (f : Int → List (List Int) → List (List Int)) : Nat → Int → List (List Int) → List (List Int)
  | 0, _, out => out
  | k + 1, v, out => if out.length ≤ 120 then ptsLoop f k (v + 1) (f v out) else out
def pts (ls : List Lp) : Nat → List Int → List (List Int) → List (List Int)
  | 0, ps, out => out ++ [ps]
  | d + 1, ps, out => ptsLoop (fun v o => pts ls d (ps ++ [v]) o) (hiV (lpAt ls ps) ps - loV (lpAt ls ps) ps).toNat (loV (lpAt ls ps) ps) out
theorem ptsLoop_bd {f : Int → List (List Int) → List (List Int)} (hf : ∀ v o, o.length ≤ 120 → (f v o).length ≤ 121) : ∀ (k : Nat) (v : Int) (o : List (List Int)), o.length ≤ 121 → (ptsLoop f k v o).length ≤ 121
  | 0, v, o, h => h
  | k + 1, v, o, h => by
    simp only [ptsLoop]
    split
    · exact ptsLoop_bd hf k _ _ (hf v o (by assumption))
    · exact h
theorem pts_bd (ls : List Lp) : ∀ (d : Nat) (ps : List Int) (o : List (List Int)), o.length ≤ 120 → (pts ls d ps o).length ≤ 121
  | 0, ps, o, h => by simp only [pts, List.length_append, List.length_cons, List.length_nil]; omega
  | d + 1, ps, o, h => by
    simp only [pts]
    exact ptsLoop_bd (fun v o ho => pts_bd ls d _ o ho) _ _ _ (by omega)
end Go.Proofs.Ytabkhiakekammaa
