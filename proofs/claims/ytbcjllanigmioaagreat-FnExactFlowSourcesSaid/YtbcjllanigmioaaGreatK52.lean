/- The texts G50 G34, joined. No statement is proved here. -/
import Derived.Test.YtbcjllanigmioaaGreatK46
import Derived.Test.YtbcjllanigmioaaGreatK42
import Derived.Test.YtbcjllanigmioaaGreatK39
/- Maps keyed by ints, as functions. No statement is proved here. -/
namespace Go.Proofs.YtbcjllanigmioaaGreat
open Go.RowKit Go.Maps

theorem keyInt : Keyed Tryz.prog 3 := int_keyed Tryz.underlying3
theorem wfI {c : Int} (h1 : -9223372036854775808 ≤ c) (h2 : c ≤ 9223372036854775807) : (Lit.int .i64 c).wf = true := by
  have e1 : IntKind.i64.min = -9223372036854775808 := by decide
  have e2 : IntKind.i64.max = 9223372036854775807 := by decide
  simp only [Lit.wf, e1, e2, Bool.and_eq_true, decide_eq_true_eq]
  exact ⟨h1, h2⟩
/-- A map from ints to values. -/
def IMp (w : World) (b n : Nat) (F : Int → Option Value) : Prop := ∃ D : DataW Value, w.ownsMap Tryz.prog 3 rawE b n D ∧ ∀ c : Int, Maps.has D (.int .i64 c) = (F c).isSome ∧ ∀ v, F c = some v → ∀ z, D.atKey (.int .i64 c) z = .held v
def updF (F : Int → Option Value) (c : Int) (v : Value) : Int → Option Value := fun x => if x = c then some v else F x
theorem IMp.made (w : World) : IMp (w.alloc (.map #[] 0)) w.heap.size 0 (fun _ => none) :=
  ⟨.map [], World.ownsMap_made w Tryz.prog 3 rawE, fun c => ⟨rfl, fun v h => by cases h⟩⟩
theorem IMp.kept {w w' : World} {b n : Nat} {F : Int → Option Value} {row : Option Nat} (h : IMp w b n F) (hg : w.grownBy w' row) (hne : some b ≠ row) : IMp w' b n F := by
  obtain ⟨D, h1, h2⟩ := h
  exact ⟨D, h1.kept hg hne, h2⟩
theorem IMp.ext {w w' : World} {b n : Nat} {F : Int → Option Value} (h : IMp w b n F) (hE : Ext w w') : IMp w' b n F := h.kept (hE.grownBy none) (by simp)
theorem IMp.setCell {w : World} {b n : Nat} {F : Int → Option Value} (h : IMp w b n F) {a : Addr} (ha : b ≠ a.block) (u : Value) : IMp (w.setCell a u) b n F := by
  obtain ⟨D, h1, h2⟩ := h
  exact ⟨D, h1.setCell ha u, h2⟩
theorem IMp.lt {w : World} {b n : Nat} {F : Int → Option Value} (h : IMp w b n F) : b < w.heap.size := by obtain ⟨D, h1, -⟩ := h; exact h1.lt
theorem int_ne {x c : Int} (h : x ≠ c) : Lit.int .i64 x ≠ Lit.int .i64 c := fun e => h (by cases e; rfl)
theorem IMp.lookOk {w : World} {b n : Nat} {F : Int → Option Value} (h : IMp w b n F) {T e : TypeId} (ht : Tryz.prog.underlying T = some (.map 3 e)) {z : Value} (hz : (zeroValue e).run Tryz.prog w = .ok z w) {c : Int} (hc : (Lit.int .i64 c).wf = true) :
    (Instr.lookup T (.map (some b)) (.int .i64 c) true).run Tryz.prog w = .ok (.tuple #[(F c).getD z, .bool (F c).isSome]) w := by
  obtain ⟨D, h1, h2⟩ := h
  obtain ⟨v, ps, hrun, hv⟩ := h1.look_ok keyInt ht hz (zd := .held z) (zp := []) rfl (keyOf_int_mk Tryz.underlying3 hc)
  simp only [rawE, Option.some.injEq, Prod.mk.injEq] at hv
  obtain ⟨ha, hb⟩ := h2 c
  have e : v = (F c).getD z := by
   cases hF : F c with
   | none =>
     rw [hF] at ha
     rw [Maps.atKey_of_not_has ha] at hv
     have := hv.1
     cases this
     rfl
   | some u =>
     rw [hb u hF] at hv
     have := hv.1
     cases this
     rfl
  rw [hrun, ha, e]
theorem IMp.upd {w : World} {b n : Nat} {F : Int → Option Value} (h : IMp w b n F) {T e : TypeId} (ht : Tryz.prog.underlying T = some (.map 3 e)) (hn : n < maxLen) {c : Int} (hc : (Lit.int .i64 c).wf = true) (v : Value) :
    ∃ w', (Instr.mapUpdate T (.map (some b)) (.int .i64 c) v).run Tryz.prog w = .ok () w' ∧ IMp w' b (n + 1) (updF F c v) ∧ w.grownBy w' (some b) := by
  obtain ⟨D, h1, h2⟩ := h
  obtain ⟨w', hrun, h3, h4⟩ := h1.update keyInt ht hn (val := v) (d := .held v) (ps := []) (keyOf_int_mk Tryz.underlying3 hc) rfl
  refine ⟨w', hrun, ⟨_, h3, fun x => ?_⟩, h4⟩
  by_cases e : x = c
  · subst e
    refine ⟨by rw [Maps.has_put_same h1.isMap (by trivial)]; simp [updF], fun u hu z => ?_⟩
    simp only [updF, if_pos, Option.some.injEq] at hu
    rw [Maps.atKey_put_same h1.isMap (by trivial), hu]
  · obtain ⟨ha, hb⟩ := h2 x
    refine ⟨by rw [Maps.has_put_other (int_ne e), ha]; simp [updF, e], fun u hu z => ?_⟩
    simp only [updF, if_neg e] at hu
    rw [Maps.atKey_put_other (int_ne e)]
    exact hb u hu z
theorem grown_lv {w w' : World} {b : Nat} (h : w.grownBy w' (some b)) : Lv (fun k => k = b) w w' := Lv.grown h (fun r hr _ => by cases hr; rfl)
end Go.Proofs.YtbcjllanigmioaaGreat

/- What a program writes, in ascending order: the model's l5Flagged and WrittenCells. No statement is proved here. -/
namespace Go.Proofs.YtbcjllanigmioaaGreat
open Go.RowKit Go.Maps

theorem InssOwn.setOld {B : Nat} {w : World} {v : Value} {l : List In3} (h : InssOwn B w v l) {p : Addr} (hp : p.block < B) (u : Value) : InssOwn B (w.setCell p u) v l := by
  obtain ⟨vs, ho, he⟩ := h
  refine ⟨vs, ownsRow_setCell_below ho hp u, fun i x hi => ?_⟩
  obtain ⟨u0, u1, u2, a0, a1, a2, b0, b1, b2⟩ := he i x hi
  exact ⟨u0, u1, u2, a0, a1, a2, b0, b1, b2.setOld hp u⟩
theorem write_bd {ars : List Arr} {s : St} {pt : List Int} (hok : ∀ a ∈ ars, arrOkB a = true) (h : cellsOk ars s pt = true) : 0 ≤ writeCell ars s pt ∧ writeCell ars s pt < totN ars := by
  simp only [cellsOk, Bool.and_eq_true, decide_eq_true_eq] at h
  have h1 := cellI_bd s.1 s.2.1 pt (base := 0) hok
  have h2 : cellI s.1 s.2.1 pt 0 ars = writeCell ars s pt := rfl
  rw [h2] at h1
  omega

end Go.Proofs.YtbcjllanigmioaaGreat
