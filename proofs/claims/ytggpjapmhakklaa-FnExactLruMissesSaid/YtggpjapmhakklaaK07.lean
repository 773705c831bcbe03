/- The texts Im, joined. No statement is proved here. -/
import Derived.Test.YtggpjapmhakklaaK06
import Derived.Maps.OwnSet
import Derived.Maps.Own
/- Maps keyed by ints, as functions; with their number of entries. No statement is proved here. -/
namespace Go.Proofs.Ytggpjapmhakklaa
open Go.RowKit Go.Maps

/-- An element of a map, read as it is. -/
def rawE : Value → Option (DataW Value × List MemPlace) := fun v => some (.held v, [])
theorem keyInt : Keyed Try.prog 3 := int_keyed Try.underlying3
theorem wfI {c : Int} (h1 : -9223372036854775808 ≤ c) (h2 : c ≤ 9223372036854775807) : (Lit.int .i64 c).wf = true := by
  have e1 : IntKind.i64.min = -9223372036854775808 := by decide
  have e2 : IntKind.i64.max = 9223372036854775807 := by decide
  simp only [Lit.wf, e1, e2, Bool.and_eq_true, decide_eq_true_eq]
  exact ⟨h1, h2⟩
/-- A map from ints to values. -/
def IMp (w : World) (b n : Nat) (F : Int → Option Value) : Prop := ∃ D : DataW Value, w.ownsMap Try.prog 3 rawE b n D ∧ ∀ c : Int, Maps.has D (.int .i64 c) = (F c).isSome ∧ ∀ v, F c = some v → ∀ z, D.atKey (.int .i64 c) z = .held v
def updF (F : Int → Option Value) (c : Int) (v : Value) : Int → Option Value := fun x => if x = c then some v else F x
def delF (F : Int → Option Value) (c : Int) : Int → Option Value := fun x => if x = c then none else F x
theorem IMp.made (w : World) : IMp (w.alloc (.map #[] 0)) w.heap.size 0 (fun _ => none) :=
  ⟨.map [], World.ownsMap_made w Try.prog 3 rawE, fun c => ⟨rfl, fun v h => by cases h⟩⟩
theorem IMp.kept {w w' : World} {b n : Nat} {F : Int → Option Value} {row : Option Nat} (h : IMp w b n F) (hg : w.grownBy w' row) (hne : some b ≠ row) : IMp w' b n F := by
  obtain ⟨D, h1, h2⟩ := h
  exact ⟨D, h1.kept hg hne, h2⟩
theorem IMp.ext {w w' : World} {b n : Nat} {F : Int → Option Value} (h : IMp w b n F) (hE : Ext w w') : IMp w' b n F := h.kept (hE.grownBy none) (by simp)
theorem IMp.setCell {w : World} {b n : Nat} {F : Int → Option Value} (h : IMp w b n F) {a : Addr} (ha : b ≠ a.block) (u : Value) : IMp (w.setCell a u) b n F := by
  obtain ⟨D, h1, h2⟩ := h
  exact ⟨D, h1.setCell ha u, h2⟩
theorem IMp.lt {w : World} {b n : Nat} {F : Int → Option Value} (h : IMp w b n F) : b < w.heap.size := by obtain ⟨D, h1, -⟩ := h; exact h1.lt
theorem int_ne {x c : Int} (h : x ≠ c) : Lit.int .i64 x ≠ Lit.int .i64 c := fun e => h (by cases e; rfl)
theorem IMp.lookOk {w : World} {b n : Nat} {F : Int → Option Value} (h : IMp w b n F) {T e : TypeId} (ht : Try.prog.underlying T = some (.map 3 e)) {z : Value} (hz : (zeroValue e).run Try.prog w = .ok z w) {c : Int} (hc : (Lit.int .i64 c).wf = true) :
    (Instr.lookup T (.map (some b)) (.int .i64 c) true).run Try.prog w = .ok (.tuple #[(F c).getD z, .bool (F c).isSome]) w := by
  obtain ⟨D, h1, h2⟩ := h
  obtain ⟨v, ps, hrun, hv⟩ := h1.look_ok keyInt ht hz (zd := .held z) (zp := []) rfl (keyOf_int_mk Try.underlying3 hc)
  simp only [rawE, Option.some.injEq, Prod.mk.injEq] at hv
  obtain ⟨ha, hb⟩ := h2 c
  have e : v = (F c).getD z := by
   cases hF : F c with
   | none =>
     rw [hF] at ha
     rw [Maps.atKey_of_not_has ha] at hv
     have := hv.1
     cases this
     rfl
   | some u =>
     rw [hb u hF] at hv
     have := hv.1
     cases this
     rfl
  rw [hrun, ha, e]
theorem IMp.upd {w : World} {b n : Nat} {F : Int → Option Value} (h : IMp w b n F) {T e : TypeId} (ht : Try.prog.underlying T = some (.map 3 e)) (hn : n < maxLen) {c : Int} (hc : (Lit.int .i64 c).wf = true) (v : Value) :
    ∃ w', (Instr.mapUpdate T (.map (some b)) (.int .i64 c) v).run Try.prog w = .ok () w' ∧ IMp w' b (n + 1) (updF F c v) ∧ w.grownBy w' (some b) := by
  obtain ⟨D, h1, h2⟩ := h
  obtain ⟨w', hrun, h3, h4⟩ := h1.update keyInt ht hn (val := v) (d := .held v) (ps := []) (keyOf_int_mk Try.underlying3 hc) rfl
  refine ⟨w', hrun, ⟨_, h3, fun x => ?_⟩, h4⟩
  by_cases e : x = c
  · subst e
    refine ⟨by rw [Maps.has_put_same h1.isMap (by trivial)]; simp [updF], fun u hu z => ?_⟩
    simp only [updF, if_pos, Option.some.injEq] at hu
    rw [Maps.atKey_put_same h1.isMap (by trivial), hu]
  · obtain ⟨ha, hb⟩ := h2 x
    refine ⟨by rw [Maps.has_put_other (int_ne e), ha]; simp [updF, e], fun u hu z => ?_⟩
    simp only [updF, if_neg e] at hu
    rw [Maps.atKey_put_other (int_ne e)]
    exact hb u hu z
theorem IMp.del {w : World} {b n : Nat} {F : Int → Option Value} (h : IMp w b n F) {T e : TypeId} (ht : Try.prog.underlying T = some (.map 3 e)) {c : Int} (hc : (Lit.int .i64 c).wf = true) (ty : TypeId) :
    ∃ w', (Builtin.delete_ #[T, 3] ty #[.map (some b), .int .i64 c]).run Try.prog w = .ok (.tuple #[]) w' ∧ IMp w' b n (delF F c) ∧ w.grownBy w' (some b) := by
  obtain ⟨D, h1, h2⟩ := h
  obtain ⟨w', hrun, h3, h4⟩ := h1.drop keyInt ht (keyOf_int_mk Try.underlying3 hc) ty
  refine ⟨w', hrun, ⟨_, h3, fun x => ?_⟩, h4.grown⟩
  by_cases e : x = c
  · subst e
    exact ⟨by rw [Maps.has_del_same]; simp [delF], fun u hu => by simp [delF] at hu⟩
  · obtain ⟨ha, hb⟩ := h2 x
    refine ⟨by rw [Maps.has_del_other (int_ne e), ha]; simp [delF, e], fun u hu z => ?_⟩
    simp only [delF, if_neg e] at hu
    rw [Maps.atKey_del_other (int_ne e)]
    exact hb u hu z
theorem grown_lv {w w' : World} {b : Nat} (h : w.grownBy w' (some b)) : Lv (fun k => k = b) w w' := Lv.grown h (fun r hr _ => by cases hr; rfl)
/-- A map from ints to values, with its number of entries. -/
def IMc (w : World) (b n : Nat) (F : Int → Option Value) (k : Nat) : Prop := ∃ D : DataW Value, w.ownsMap Try.prog 3 rawE b n D ∧ (∀ c : Int, Maps.has D (.int .i64 c) = (F c).isSome ∧ ∀ v, F c = some v → ∀ z, D.atKey (.int .i64 c) z = .held v) ∧ Maps.Tidy D ∧ Maps.size D = k
theorem IMc.imp {w : World} {b n k : Nat} {F : Int → Option Value} (h : IMc w b n F k) : IMp w b n F := by obtain ⟨D, h1, h2, -, -⟩ := h; exact ⟨D, h1, h2⟩
theorem IMc.made (w : World) : IMc (w.alloc (.map #[] 0)) w.heap.size 0 (fun _ => none) 0 :=
  ⟨.map [], World.ownsMap_made w Try.prog 3 rawE, fun c => ⟨rfl, fun v h => by cases h⟩, Maps.tidy_empty, rfl⟩
theorem IMc.kept {w w' : World} {b n k : Nat} {F : Int → Option Value} {row : Option Nat} (h : IMc w b n F k) (hg : w.grownBy w' row) (hne : some b ≠ row) : IMc w' b n F k := by
  obtain ⟨D, h1, h2⟩ := h
  exact ⟨D, h1.kept hg hne, h2⟩
theorem IMc.blk {w w' : World} {b n k : Nat} {F : Int → Option Value} (h : IMc w b n F k) (hb : w'.heap[b]? = w.heap[b]?) : IMc w' b n F k := by
  obtain ⟨D, ⟨es, clock, h1, h2⟩, h3⟩ := h
  exact ⟨D, ⟨es, clock, hb.trans h1, h2⟩, h3⟩
theorem IMc.lt {w : World} {b n k : Nat} {F : Int → Option Value} (h : IMc w b n F k) : b < w.heap.size := h.imp.lt
theorem IMc.lv {D : Nat → Prop} {w w' : World} {b n k : Nat} {F : Int → Option Value} (h : IMc w b n F k) (hv : Lv D w w') (hD : ¬ D b) : IMc w' b n F k := h.blk (hv.block b h.lt hD)
theorem IMc.len {w : World} {b n k : Nat} {F : Int → Option Value} (h : IMc w b n F k) {T e : TypeId} (ht : Try.prog.underlying T = some (.map 3 e)) (ty : TypeId) : (Builtin.len_ #[T] ty #[.map (some b)]).run Try.prog w = .ok (.int .i64 (k : Int)) w := by
  obtain ⟨D, h1, -, -, rfl⟩ := h
  exact h1.len ht ty
theorem IMc.upd {w : World} {b n k : Nat} {F : Int → Option Value} (h : IMc w b n F k) {T e : TypeId} (ht : Try.prog.underlying T = some (.map 3 e)) (hn : n < maxLen) {c : Int} (hc : (Lit.int .i64 c).wf = true) (v : Value) :
    ∃ w', (Instr.mapUpdate T (.map (some b)) (.int .i64 c) v).run Try.prog w = .ok () w' ∧ IMc w' b (n + 1) (updF F c v) (if (F c).isSome = true then k else k + 1) ∧ w.grownBy w' (some b) := by
  obtain ⟨D, h1, h2, ht1, ht2⟩ := h
  obtain ⟨w', hrun, h3, h4⟩ := h1.update keyInt ht hn (val := v) (d := .held v) (ps := []) (keyOf_int_mk Try.underlying3 hc) rfl
  refine ⟨w', hrun, ⟨_, h3, fun x => ?_, ht1.put (by trivial) _, by rw [Maps.size_put ht1, (h2 c).1, ht2]⟩, h4⟩
  by_cases e : x = c
  · subst e
    refine ⟨by rw [Maps.has_put_same h1.isMap (by trivial)]; simp [updF], fun u hu z => ?_⟩
    simp only [updF, if_pos, Option.some.injEq] at hu
    rw [Maps.atKey_put_same h1.isMap (by trivial), hu]
  · obtain ⟨ha, hb⟩ := h2 x
    refine ⟨by rw [Maps.has_put_other (int_ne e), ha]; simp [updF, e], fun u hu z => ?_⟩
    simp only [updF, if_neg e] at hu
    rw [Maps.atKey_put_other (int_ne e)]
    exact hb u hu z
theorem IMc.del {w : World} {b n k : Nat} {F : Int → Option Value} (h : IMc w b n F k) {T e : TypeId} (ht : Try.prog.underlying T = some (.map 3 e)) {c : Int} (hc : (Lit.int .i64 c).wf = true) (ty : TypeId) :
    ∃ w', (Builtin.delete_ #[T, 3] ty #[.map (some b), .int .i64 c]).run Try.prog w = .ok (.tuple #[]) w' ∧ IMc w' b n (delF F c) (if (F c).isSome = true then k - 1 else k) ∧ w.grownBy w' (some b) := by
  obtain ⟨D, h1, h2, ht1, ht2⟩ := h
  obtain ⟨w', hrun, h3, h4⟩ := h1.drop keyInt ht (keyOf_int_mk Try.underlying3 hc) ty
  refine ⟨w', hrun, ⟨_, h3, fun x => ?_, ht1.del _, ?_⟩, h4.grown⟩
  · by_cases e : x = c
    · subst e
      exact ⟨by rw [Maps.has_del_same]; simp [delF], fun u hu => by simp [delF] at hu⟩
    · obtain ⟨ha, hb⟩ := h2 x
      refine ⟨by rw [Maps.has_del_other (int_ne e), ha]; simp [delF, e], fun u hu z => ?_⟩
      simp only [delF, if_neg e] at hu
      rw [Maps.atKey_del_other (int_ne e)]
      exact hb u hu z
  · have h5 := Maps.size_del (k := .int .i64 c) ht1
    rw [(h2 c).1, ht2] at h5
    split at h5 <;> rename_i hh <;> simp only [hh] <;> simp <;> omega
theorem upd_Ic {ops : Array Oper} {rest : List Oper} {o : Oper} {a : Act} {Q : Exit → Act → World → Prop} (w : World) (hg : o.guard = none) (m x v : Operand) (t e : TypeId) (hop : o.op = Op.mapUpdate t m x v)
    (ht : Try.prog.underlying t = some (.map 3 e)) {b n k : Nat} {F : Int → Option Value} (hm : a.eval m = .map (some b)) (h : IMc w b n F k) (hn : n < maxLen) {c : Int} {val : Value} (hx : a.eval x = .int .i64 c) (hv : a.eval v = val)
    (hc : (Lit.int .i64 c).wf = true) (hK : ∀ w', IMc w' b (n + 1) (updF F c val) (if (F c).isSome = true then k else k + 1) → w.grownBy w' (some b) → wpList Try.prog ops Q rest (a.put o.dst undef) w') :
    wpList Try.prog ops Q (o :: rest) a w := by
  refine wpList_plain hg fun K' hK' => ?_
  obtain ⟨w', hrun, r1, r2⟩ := h.upd ht hn hc val
  unfold Oper.wp
  simp [execOp, hop, hm, hx, hv, hrun, Result.andThen]
  exact hK' _ _ (hK w' r1 r2)
end Go.Proofs.Ytggpjapmhakklaa
