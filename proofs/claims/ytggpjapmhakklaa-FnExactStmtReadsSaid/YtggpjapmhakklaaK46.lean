/- The texts R1 S12, joined. No statement is proved here. -/
import Derived.Test.YtggpjapmhakklaaK19
import Derived.Test.YtggpjapmhakklaaK06
import Derived.Maps.AppendAt
import Derived.Test.YtggpjapmhakklaaK44
import Derived.Test.YtggpjapmhakklaaK16
import Derived.Test.YtggpjapmhakklaaK36
import Derived.Test.YtggpjapmhakklaaK39
/- Points of a nest: how many iterations, which points; bounds of coordinates. No statement is proved here. | The model's count of iterations. | The model's points of a nest. | The model's NestPoints; a point of about a nest; the arguments of PointIn. | Prefixes of points in the order in which the program visits them, and that the model counts and lists the same. No statement is proved here. -/
namespace Go.Proofs.Ytggpjapmhakklaa
open Go.RowKit

/-- How far a coordinate can be from zero. -/
def bnd : Nat → Int
  | 0 => 99
  | 1 => 990
  | 2 => 9900
  | _ => 99000
def PB (ps : List Int) : Prop := ∀ i x, ps[i]? = some x → -bnd i ≤ x ∧ x ≤ bnd i
theorem PB.nil : PB [] := fun i x h => by simp at h
theorem PB.push {ps : List Int} {v : Int} (h : PB ps) (h0 : -bnd ps.length ≤ v) (h1 : v ≤ bnd ps.length) : PB (ps ++ [v]) := fun i x hi => by
  rcases Nat.lt_or_ge i ps.length with hl | hl
  · rw [List.getElem?_append_left hl] at hi; exact h i x hi
  · rw [List.getElem?_append_right hl] at hi
    have hi0 : i - ps.length = 0 := by
      rcases Nat.eq_zero_or_pos (i - ps.length) with h | h
      · exact h
      · rw [List.getElem?_eq_none (by simp; omega)] at hi; cases hi
    rw [hi0] at hi
    simp at hi
    subst hi
    rw [show i = ps.length by omega]
    exact ⟨h0, h1⟩
def lpAt (ls : List Lp) (ps : List Int) : Lp := ls.getD ps.length ([], [])
end Go.Proofs.Ytggpjapmhakklaa

namespace Go.Proofs.Ytggpjapmhakklaa
open Go.RowKit

/-- A prefix of a point, as the model hands it on: nil, or a row. -/
def PreAt (w : World) (pv : Value) (ps : List Int) : Prop := (pv = .slice none 0 0 ∧ ps = []) ∨ ∃ b c', pv = .slice (some ⟨b, 0, none⟩) ps.length c' ∧ IntsAt w pv ps
theorem PreAt.at {w : World} {pv : Value} {ps : List Int} (h : PreAt w pv ps) : IntsAt w pv ps := by
  rcases h with ⟨rfl, rfl⟩ | ⟨b, c', rfl, h⟩
  · exact ⟨none, 0, rfl, by simp, fun i x h => by simp at h⟩
  · exact h
theorem PreAt.ext {w w' : World} {pv : Value} {ps : List Int} (h : PreAt w pv ps) (hE : Ext w w') : PreAt w' pv ps := by
  rcases h with h | ⟨b, c', e, h⟩
  · exact .inl h
  · exact .inr ⟨b, c', e, h.ext hE⟩
end Go.Proofs.Ytggpjapmhakklaa

namespace Go.Proofs.Ytggpjapmhakklaa
open Go.RowKit

/-- Lists of ints of the call's own. -/
def PtsOwn (B : Nat) (w : World) (v : Value) (xss : List (List Int)) : Prop := ∃ vs, w.ownsRow B 22 1 v xss.length vs ∧ ∀ (i : Nat) (xs : List Int), xss[i]? = some xs → ∃ u : Value, vs[i]? = some u ∧ IntsOwn B w u xs
/-- Whatever is no row of lists lies as it lay. -/
def Kt (w w' : World) : Prop := ∀ (g : Nat) (cs : Array Value) (T : TypeId) (fz : Nat × Nat), T ≠ 22 → w.heap[g]? = some (.cells cs T fz) → w'.heap[g]? = some (.cells cs T fz)
theorem Kt.refl (w : World) : Kt w w := fun _ _ _ _ _ h => h
theorem Kt.trans {a b c : World} (h : Kt a b) (k : Kt b c) : Kt a c := fun _ _ _ _ hT hg => k _ _ _ _ hT (h _ _ _ _ hT hg)
theorem Kt.ext {a b : World} (h : Ext a b) : Kt a b := fun _ _ _ _ _ hg => h.blk hg
theorem Kt.grown {a b : World} {row : Option Nat} (hg : a.grownBy b row) (ht : Tag a row 22) : Kt a b := fun _ _ _ _ hT h => blk_tag h hg ht (fun e => hT e.symm)
theorem PtsOwn.slice {B : Nat} {w : World} {v : Value} {xss : List (List Int)} (h : PtsOwn B w v xss) : ∃ p c, v = .slice p xss.length c := by
  obtain ⟨vs, ho, -⟩ := h
  rcases ho.2 with ⟨rfl, hn⟩ | ⟨g, cap, cur, rfl, _⟩
  · exact ⟨none, 0, by rw [hn]⟩
  · exact ⟨_, _, rfl⟩
theorem PtsOwn.ext {B : Nat} {w w' : World} {v : Value} {xss : List (List Int)} (h : PtsOwn B w v xss) (hE : Ext w w') : PtsOwn B w' v xss := by
  obtain ⟨vs, ho, he⟩ := h
  exact ⟨vs, ownsRow_ext ho hE, fun i xs hi => by obtain ⟨u, h0, h1⟩ := he i xs hi; exact ⟨u, h0, h1.ext hE⟩⟩
theorem PtsOwn.push {B m : Nat} {w w' : World} {v v' u : Value} {xss : List (List Int)} {ps : List Int} {vs : List Value} (hm : xss.length = m) (he : ∀ (i : Nat) (xs : List Int), xss[i]? = some xs → ∃ u : Value, vs[i]? = some u ∧ IntsOwn B w u xs) (hvl : vs.length = m)
    (ho' : w'.ownsRow B 22 1 v' (m + 1) (vs ++ [u])) (hg : w.grownBy w' v.ownBlock) (ht : Tag w v.ownBlock 22) (hx : IntsOwn B w u ps) : PtsOwn B w' v' (xss ++ [ps]) := by
  refine ⟨vs ++ [u], by rw [List.length_append, hm]; exact ho', fun i xs hi => ?_⟩
  rcases Nat.lt_or_ge i xss.length with hlt | hge
  · rw [List.getElem?_append_left hlt] at hi
    obtain ⟨u', h0, h1⟩ := he i xs hi
    exact ⟨u', by rw [List.getElem?_append_left (by omega)]; exact h0, h1.tag hg ht (by decide)⟩
  · rw [List.getElem?_append_right hge] at hi
    have hi0 : i - xss.length = 0 := by
      rcases Nat.eq_zero_or_pos (i - xss.length) with h | h
      · exact h
      · rw [List.getElem?_eq_none (by simp; omega)] at hi; cases hi
    rw [hi0] at hi
    simp at hi
    subst hi
    have hin : i = m := by omega
    subst hin
    exact ⟨u, by rw [List.getElem?_append_right (by omega)]; simp [hvl], hx.tag hg ht (by decide)⟩
end Go.Proofs.Ytggpjapmhakklaa

namespace Go.Proofs.Ytggpjapmhakklaa
open Go.RowKit

theorem PtsOwn.weak {B B' : Nat} {w : World} {v : Value} {xss : List (List Int)} (h : PtsOwn B w v xss) (hB : B' ≤ B) : PtsOwn B' w v xss := by
  obtain ⟨vs, ho, he⟩ := h
  exact ⟨vs, ownsRow_weak ho hB, fun i xs hi => by obtain ⟨u, h0, h1⟩ := he i xs hi; exact ⟨u, h0, h1.weak hB⟩⟩
theorem PtsOwn.get {B m c i : Nat} {w : World} {p : Option Addr} {xss : List (List Int)} (h : PtsOwn B w (.slice p m c) xss) (hm : xss.length = m) (hi : i < m) : ∃ g xs u, p = some ⟨g, 0, none⟩ ∧ w.cell? ⟨g, i, none⟩ = some u ∧ IntsOwn B w u xs ∧ xs ∈ xss := by
  obtain ⟨vs, ho, he⟩ := h
  rw [hm] at ho
  obtain ⟨xs, hx⟩ := get_some (xs := xss) (k := i) (by omega)
  obtain ⟨u, h0, h1⟩ := he i xs hx
  have hne : (Value.slice p m c) ≠ .slice none 0 0 := by intro e; simp at e; omega
  obtain ⟨g, c', e, -⟩ := own_form' ho hne
  simp only [Value.slice.injEq] at e
  obtain ⟨rfl, -, rfl⟩ := e
  exact ⟨g, xs, u, rfl, by rw [ho.cellAt i (by omega)]; exact h0, h1, List.mem_of_getElem? hx⟩

end Go.Proofs.Ytggpjapmhakklaa

namespace Go.Proofs.Ytggpjapmhakklaa
open Go.RowKit

def listLoop (f : Int → List (List Int)) : Nat → Int → List (List Int)
  | 0, _ => []
  | k + 1, v => f v ++ listLoop f k (v + 1)
def trips (ls : List Lp) (ps : List Int) : Nat := (hiV (lpAt ls ps) ps - loV (lpAt ls ps) ps).toNat
/-- The prefixes from ps on: ps, then those of the iterations of the next loop. -/
def pre (ls : List Lp) : Nat → List Int → List (List Int)
  | 0, ps => [ps]
  | d + 1, ps => ps :: listLoop (fun v => pre ls d (ps ++ [v])) (trips ls ps) (loV (lpAt ls ps) ps)
end Go.Proofs.Ytggpjapmhakklaa

/- The program's comparison of a node with a bare one. No statement is proved here. -/
namespace Go.Proofs.Ytggpjapmhakklaa
open Go.RowKit

theorem AffsAt.zero (w : World) : AffsAt w (.slice none 0 0) [] := ⟨none, 0, rfl, by simp, fun i x h => by simp at h⟩
theorem IntsAt.zero (w : World) : IntsAt w (.slice none 0 0) [] := ⟨none, 0, rfl, by simp, fun i x h => by simp at h⟩
theorem lEqB_nil {xs : List Aff} : lEqB xs [] = decide (xs.length = 0) := by
  cases xs with
  | nil => rfl
  | cons x l => simp [lEqB]
theorem affEq_none (xs : List Int) (k : Int) : affEqB xs k [] 0 = noneB (xs, k) := by
  cases xs with
  | nil => simp [affEqB, noneB, eqB]
  | cons x l => simp [affEqB, noneB, eqB]

set_option maxHeartbeats 800000 in
theorem accSameZ_any (arr : ByteArray) (s : Value) (subs : List Aff) (w : World) (hs : AffsAt w s subs) :
    Calls Try.prog 134 #[.agg #[.string arr, s], .agg #[.string ⟨#[]⟩, .slice none 0 0]] w fun e w' => e = .returned (.bool (emptyB arr subs)) ∧ Ext w w' := by
  obtain ⟨p, c, rfl, hm⟩ := hs.form
  have HS := Lib.hid hs; clear hs
  by_cases ha : arr.toList = []
  · have HR : Hid (emptyB arr subs = lEqB subs []) := Lib.hid (by simp only [emptyB]; rw [lEqB_nil, decide_eq_true ha]; rfl)
    go_enter Try.func134, Try.ntmps134
    go_wp2_with (fail)
    refine (eqFuncA_any _ _ _ _ _ _ subs [] _ rfl rfl (HS.out.ext (((Ext.refl w).alloc _).alloc _)) (AffsAt.zero _)).mono ?_
    rintro e w1 ⟨rfl, hE⟩
    have E1 := Lib.hid ((((Ext.refl w).alloc _).alloc _).trans hE); clear hE
    go_wp2
    go_ret
    exact ⟨ret_bool HR.out.symm, E1.out⟩
  · have HR : Hid (emptyB arr subs = false) := Lib.hid (by simp only [emptyB]; rw [decide_eq_false ha]; rfl)
    have hb : arr.toList.isEmpty = false := by simpa using ha
    go_enter Try.func134, Try.ntmps134
    go_wp2
    go_ret
    exact ⟨ret_bool HR.out.symm, ((Ext.refl w).alloc _).alloc _⟩

def bareB (num : Int) (ix : Aff) (arr : ByteArray) (subs : List Aff) (n : Nat) : Bool := decide (num = 0) && (noneB ix && (emptyB arr subs && decide (n = 0)))

set_option maxRecDepth 100000 in
set_option maxHeartbeats 1600000 in
theorem sameZ_any (kind num k : Int) (u s v : Value) (xs : List Int) (arr : ByteArray) (subs : List Aff) (n : Nat) (w : World) (hu : IntsAt w u xs) (hs : AffsAt w s subs) (hv : ∃ p c, v = .slice p n c) (hn : n ≤ 9223372036854775807) :
    Calls Try.prog 123 #[.agg #[.int .i64 kind, .int .i64 num, u, .int .i64 k, .string arr, s, v], .agg #[.int .i64 kind, .int .i64 0, .slice none 0 0, .int .i64 0, .string ⟨#[]⟩, .slice none 0 0, .slice none 0 0]] w
      fun e w' => e = .returned (.bool (bareB num (xs, k) arr subs n)) ∧ Ext w w' := by
  obtain ⟨pu, cu, rfl, hmu, -⟩ := id hu
  obtain ⟨ps, cs, rfl, hms⟩ := hs.form
  obtain ⟨pv, cv, rfl⟩ := hv
  have HU := Lib.hid hu; have HS := Lib.hid hs; clear hu hs
  by_cases h1 : num = 0
  · subst h1
    obtain ⟨q, hq⟩ : ∃ q, noneB (xs, k) = q := ⟨_, rfl⟩
    have HQ := Lib.hid hq; clear hq
    go_enter Try.func123, Try.ntmps123
    go_wp2_with (fail)
    refine (AffineSame_any _ _ xs [] k 0 _ (HU.out.ext (((Ext.refl w).alloc _).alloc _)) (IntsAt.zero _)).mono ?_
    rw [affEq_none, HQ.out]
    rintro e W1 ⟨rfl, hE⟩
    have B1 := Lib.hid (hE.blk (g := w.heap.size) (blk_old (blk_at rfl)))
    have B2 := Lib.hid (hE.blk (g := w.heap.size + 1) (blk_at (by simp)))
    have E1 := Lib.hid ((((Ext.refl w).alloc _).alloc _).trans hE); clear hE
    obtain ⟨-, -, -, -, x4, x5, x6⟩ := blk7 B1.out
    obtain ⟨-, -, -, -, y4, y5, y6⟩ := blk7 B2.out
    cases q with
    | false =>
      have HR : Hid (bareB 0 (xs, k) arr subs n = false) := Lib.hid (by simp only [bareB, HQ.out]; simp)
      go_wp2
      go_ret
      exact ⟨ret_bool HR.out.symm, E1.out⟩
    | true =>
      obtain ⟨r, hr⟩ : ∃ r, emptyB arr subs = r := ⟨_, rfl⟩
      have HRR := Lib.hid hr; clear hr
      go_wp2_with (fail)
      refine (accSameZ_any arr _ subs _ (HS.out.ext E1.out)).mono ?_
      rw [HRR.out]
      rintro e W2 ⟨rfl, hE⟩
      have B3 := Lib.hid (hE.blk B1.out); have B4 := Lib.hid (hE.blk B2.out)
      have E2 := Lib.hid (E1.out.trans hE); clear hE x4 x5 x6 y4 y5 y6
      obtain ⟨-, -, -, -, x4, x5, x6⟩ := blk7 B3.out
      obtain ⟨-, -, -, -, y4, y5, y6⟩ := blk7 B4.out
      cases r with
      | false =>
        have HR : Hid (bareB 0 (xs, k) arr subs n = false) := Lib.hid (by simp only [bareB, HQ.out, HRR.out]; simp)
        go_wp2
        go_ret
        exact ⟨ret_bool HR.out.symm, E2.out⟩
      | true =>
        by_cases h0 : n = 0
        · subst h0
          have HR : Hid (bareB 0 (xs, k) arr subs 0 = true) := Lib.hid (by simp only [bareB, HQ.out, HRR.out]; simp)
          go_wp2
          go_ret
          exact ⟨ret_bool HR.out.symm, E2.out⟩
        · have hb : ((n : Int) == 0) = false := beq_eq_false_iff_ne.2 (by omega)
          have HR : Hid (bareB 0 (xs, k) arr subs n = false) := Lib.hid (by simp only [bareB, HQ.out, HRR.out]; simp [h0])
          clear h0
          go_wp2
          go_ret
          exact ⟨ret_bool HR.out.symm, E2.out⟩
  · have hb : (num == 0) = false := by simp [h1]
    have HR : Hid (bareB num (xs, k) arr subs n = false) := Lib.hid (by simp only [bareB]; rw [decide_eq_false h1]; rfl)
    clear h1
    go_enter Try.func123, Try.ntmps123
    go_wp2
    go_ret
    exact ⟨ret_bool HR.out.symm, ((Ext.refl w).alloc _).alloc _⟩

set_option maxRecDepth 100000 in
set_option maxHeartbeats 800000 in
theorem bare_any (kind num k : Int) (u s v : Value) (xs : List Int) (arr : ByteArray) (subs : List Aff) (n : Nat) (w : World) (hu : IntsAt w u xs) (hs : AffsAt w s subs) (hv : ∃ p c, v = .slice p n c) (hn : n ≤ 9223372036854775807) :
    Calls Try.prog 101 #[.agg #[.int .i64 kind, .int .i64 num, u, .int .i64 k, .string arr, s, v]] w
      fun e w' => e = .returned (.bool (bareB num (xs, k) arr subs n)) ∧ Ext w w' := by
  obtain ⟨pu, cu, rfl, hmu, -⟩ := id hu
  obtain ⟨ps, cs, rfl, hms⟩ := hs.form
  obtain ⟨pv, cv, rfl⟩ := hv
  have HU := Lib.hid hu; have HS := Lib.hid hs; clear hu hs
  go_enter Try.func101, Try.ntmps101
  go_wp2_with (fail)
  refine (sameZ_any kind num k _ _ _ xs arr subs n _ (HU.out.ext ((Ext.refl w).alloc _)) (HS.out.ext ((Ext.refl w).alloc _)) ⟨_, _, rfl⟩ hn).mono ?_
  rintro e W1 ⟨rfl, hE⟩
  have E1 := Lib.hid (((Ext.refl w).alloc _).trans hE); clear hE
  go_wp2
  go_ret
  exact ⟨rfl, E1.out⟩
end Go.Proofs.Ytggpjapmhakklaa
