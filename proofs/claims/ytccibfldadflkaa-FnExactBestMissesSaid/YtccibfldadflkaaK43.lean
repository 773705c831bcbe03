/- The texts Im Ho, joined. No statement is proved here. -/
import Derived.Test.YtccibfldadflkaaK19
import Derived.Maps.OwnSet
import Derived.Maps.Own
import Derived.Test.YtccibfldadflkaaK28
/- Maps keyed by ints, as functions; with their number of entries. No statement is proved here. -/
namespace Go.Proofs.Ytccibfldadflkaa
open Go.RowKit Go.Maps

/-- An element of a map, read as it is. -/
def rawE : Value → Option (DataW Value × List MemPlace) := fun v => some (.held v, [])
theorem keyInt : Keyed Try.prog 3 := int_keyed Try.underlying3
theorem wfI {c : Int} (h1 : -9223372036854775808 ≤ c) (h2 : c ≤ 9223372036854775807) : (Lit.int .i64 c).wf = true := by
  have e1 : IntKind.i64.min = -9223372036854775808 := by decide
  have e2 : IntKind.i64.max = 9223372036854775807 := by decide
  simp only [Lit.wf, e1, e2, Bool.and_eq_true, decide_eq_true_eq]
  exact ⟨h1, h2⟩
/-- A map from ints to values. -/
def IMp (w : World) (b n : Nat) (F : Int → Option Value) : Prop := ∃ D : DataW Value, w.ownsMap Try.prog 3 rawE b n D ∧ ∀ c : Int, Maps.has D (.int .i64 c) = (F c).isSome ∧ ∀ v, F c = some v → ∀ z, D.atKey (.int .i64 c) z = .held v
def updF (F : Int → Option Value) (c : Int) (v : Value) : Int → Option Value := fun x => if x = c then some v else F x
def delF (F : Int → Option Value) (c : Int) : Int → Option Value := fun x => if x = c then none else F x
theorem IMp.made (w : World) : IMp (w.alloc (.map #[] 0)) w.heap.size 0 (fun _ => none) :=
  ⟨.map [], World.ownsMap_made w Try.prog 3 rawE, fun c => ⟨rfl, fun v h => by cases h⟩⟩
theorem IMp.kept {w w' : World} {b n : Nat} {F : Int → Option Value} {row : Option Nat} (h : IMp w b n F) (hg : w.grownBy w' row) (hne : some b ≠ row) : IMp w' b n F := by
  obtain ⟨D, h1, h2⟩ := h
  exact ⟨D, h1.kept hg hne, h2⟩
theorem IMp.ext {w w' : World} {b n : Nat} {F : Int → Option Value} (h : IMp w b n F) (hE : Ext w w') : IMp w' b n F := h.kept (hE.grownBy none) (by simp)
theorem IMp.setCell {w : World} {b n : Nat} {F : Int → Option Value} (h : IMp w b n F) {a : Addr} (ha : b ≠ a.block) (u : Value) : IMp (w.setCell a u) b n F := by
  obtain ⟨D, h1, h2⟩ := h
  exact ⟨D, h1.setCell ha u, h2⟩
theorem IMp.lt {w : World} {b n : Nat} {F : Int → Option Value} (h : IMp w b n F) : b < w.heap.size := by obtain ⟨D, h1, -⟩ := h; exact h1.lt
theorem int_ne {x c : Int} (h : x ≠ c) : Lit.int .i64 x ≠ Lit.int .i64 c := fun e => h (by cases e; rfl)
theorem IMp.look {w : World} {b n : Nat} {F : Int → Option Value} (h : IMp w b n F) {T e : TypeId} (ht : Try.prog.underlying T = some (.map 3 e)) {z : Value} (hz : (zeroValue e).run Try.prog w = .ok z w) {c : Int} (hc : (Lit.int .i64 c).wf = true) :
    (Instr.lookup T (.map (some b)) (.int .i64 c) false).run Try.prog w = .ok ((F c).getD z) w := by
  obtain ⟨D, h1, h2⟩ := h
  obtain ⟨v, ps, hrun, hv⟩ := h1.lookup keyInt ht hz (zd := .held z) (zp := []) rfl (keyOf_int_mk Try.underlying3 hc)
  simp only [rawE, Option.some.injEq, Prod.mk.injEq] at hv
  obtain ⟨ha, hb⟩ := h2 c
  have e : v = (F c).getD z := by
   cases hF : F c with
   | none =>
     rw [hF] at ha
     rw [Maps.atKey_of_not_has ha] at hv
     have := hv.1
     cases this
     rfl
   | some u =>
     rw [hb u hF] at hv
     have := hv.1
     cases this
     rfl
  rw [hrun, e]
theorem IMp.lookOk {w : World} {b n : Nat} {F : Int → Option Value} (h : IMp w b n F) {T e : TypeId} (ht : Try.prog.underlying T = some (.map 3 e)) {z : Value} (hz : (zeroValue e).run Try.prog w = .ok z w) {c : Int} (hc : (Lit.int .i64 c).wf = true) :
    (Instr.lookup T (.map (some b)) (.int .i64 c) true).run Try.prog w = .ok (.tuple #[(F c).getD z, .bool (F c).isSome]) w := by
  obtain ⟨D, h1, h2⟩ := h
  obtain ⟨v, ps, hrun, hv⟩ := h1.look_ok keyInt ht hz (zd := .held z) (zp := []) rfl (keyOf_int_mk Try.underlying3 hc)
  simp only [rawE, Option.some.injEq, Prod.mk.injEq] at hv
  obtain ⟨ha, hb⟩ := h2 c
  have e : v = (F c).getD z := by
   cases hF : F c with
   | none =>
     rw [hF] at ha
     rw [Maps.atKey_of_not_has ha] at hv
     have := hv.1
     cases this
     rfl
   | some u =>
     rw [hb u hF] at hv
     have := hv.1
     cases this
     rfl
  rw [hrun, ha, e]
theorem IMp.upd {w : World} {b n : Nat} {F : Int → Option Value} (h : IMp w b n F) {T e : TypeId} (ht : Try.prog.underlying T = some (.map 3 e)) (hn : n < maxLen) {c : Int} (hc : (Lit.int .i64 c).wf = true) (v : Value) :
    ∃ w', (Instr.mapUpdate T (.map (some b)) (.int .i64 c) v).run Try.prog w = .ok () w' ∧ IMp w' b (n + 1) (updF F c v) ∧ w.grownBy w' (some b) := by
  obtain ⟨D, h1, h2⟩ := h
  obtain ⟨w', hrun, h3, h4⟩ := h1.update keyInt ht hn (val := v) (d := .held v) (ps := []) (keyOf_int_mk Try.underlying3 hc) rfl
  refine ⟨w', hrun, ⟨_, h3, fun x => ?_⟩, h4⟩
  by_cases e : x = c
  · subst e
    refine ⟨by rw [Maps.has_put_same h1.isMap (by trivial)]; simp [updF], fun u hu z => ?_⟩
    simp only [updF, if_pos, Option.some.injEq] at hu
    rw [Maps.atKey_put_same h1.isMap (by trivial), hu]
  · obtain ⟨ha, hb⟩ := h2 x
    refine ⟨by rw [Maps.has_put_other (int_ne e), ha]; simp [updF, e], fun u hu z => ?_⟩
    simp only [updF, if_neg e] at hu
    rw [Maps.atKey_put_other (int_ne e)]
    exact hb u hu z
theorem IMp.del {w : World} {b n : Nat} {F : Int → Option Value} (h : IMp w b n F) {T e : TypeId} (ht : Try.prog.underlying T = some (.map 3 e)) {c : Int} (hc : (Lit.int .i64 c).wf = true) (ty : TypeId) :
    ∃ w', (Builtin.delete_ #[T, 3] ty #[.map (some b), .int .i64 c]).run Try.prog w = .ok (.tuple #[]) w' ∧ IMp w' b n (delF F c) ∧ w.grownBy w' (some b) := by
  obtain ⟨D, h1, h2⟩ := h
  obtain ⟨w', hrun, h3, h4⟩ := h1.drop keyInt ht (keyOf_int_mk Try.underlying3 hc) ty
  refine ⟨w', hrun, ⟨_, h3, fun x => ?_⟩, h4.grown⟩
  by_cases e : x = c
  · subst e
    exact ⟨by rw [Maps.has_del_same]; simp [delF], fun u hu => by simp [delF] at hu⟩
  · obtain ⟨ha, hb⟩ := h2 x
    refine ⟨by rw [Maps.has_del_other (int_ne e), ha]; simp [delF, e], fun u hu z => ?_⟩
    simp only [delF, if_neg e] at hu
    rw [Maps.atKey_del_other (int_ne e)]
    exact hb u hu z
theorem grown_lv {w w' : World} {b : Nat} (h : w.grownBy w' (some b)) : Lv (fun k => k = b) w w' := Lv.grown h (fun r hr _ => by cases hr; rfl)
theorem zeroB (w : World) : (zeroValue 4).run Try.prog w = .ok (.bool false) w := by kernel_rfl
/-- A map from ints to values, with its number of entries. -/
def IMc (w : World) (b n : Nat) (F : Int → Option Value) (k : Nat) : Prop := ∃ D : DataW Value, w.ownsMap Try.prog 3 rawE b n D ∧ (∀ c : Int, Maps.has D (.int .i64 c) = (F c).isSome ∧ ∀ v, F c = some v → ∀ z, D.atKey (.int .i64 c) z = .held v) ∧ Maps.Tidy D ∧ Maps.size D = k
theorem IMc.imp {w : World} {b n k : Nat} {F : Int → Option Value} (h : IMc w b n F k) : IMp w b n F := by obtain ⟨D, h1, h2, -, -⟩ := h; exact ⟨D, h1, h2⟩
theorem IMc.made (w : World) : IMc (w.alloc (.map #[] 0)) w.heap.size 0 (fun _ => none) 0 :=
  ⟨.map [], World.ownsMap_made w Try.prog 3 rawE, fun c => ⟨rfl, fun v h => by cases h⟩, Maps.tidy_empty, rfl⟩
theorem IMc.kept {w w' : World} {b n k : Nat} {F : Int → Option Value} {row : Option Nat} (h : IMc w b n F k) (hg : w.grownBy w' row) (hne : some b ≠ row) : IMc w' b n F k := by
  obtain ⟨D, h1, h2⟩ := h
  exact ⟨D, h1.kept hg hne, h2⟩
theorem IMc.blk {w w' : World} {b n k : Nat} {F : Int → Option Value} (h : IMc w b n F k) (hb : w'.heap[b]? = w.heap[b]?) : IMc w' b n F k := by
  obtain ⟨D, ⟨es, clock, h1, h2⟩, h3⟩ := h
  exact ⟨D, ⟨es, clock, hb.trans h1, h2⟩, h3⟩
theorem IMc.lt {w : World} {b n k : Nat} {F : Int → Option Value} (h : IMc w b n F k) : b < w.heap.size := h.imp.lt
theorem IMc.lv {D : Nat → Prop} {w w' : World} {b n k : Nat} {F : Int → Option Value} (h : IMc w b n F k) (hv : Lv D w w') (hD : ¬ D b) : IMc w' b n F k := h.blk (hv.block b h.lt hD)
theorem IMc.len {w : World} {b n k : Nat} {F : Int → Option Value} (h : IMc w b n F k) {T e : TypeId} (ht : Try.prog.underlying T = some (.map 3 e)) (ty : TypeId) : (Builtin.len_ #[T] ty #[.map (some b)]).run Try.prog w = .ok (.int .i64 (k : Int)) w := by
  obtain ⟨D, h1, -, -, rfl⟩ := h
  exact h1.len ht ty
theorem IMc.upd {w : World} {b n k : Nat} {F : Int → Option Value} (h : IMc w b n F k) {T e : TypeId} (ht : Try.prog.underlying T = some (.map 3 e)) (hn : n < maxLen) {c : Int} (hc : (Lit.int .i64 c).wf = true) (v : Value) :
    ∃ w', (Instr.mapUpdate T (.map (some b)) (.int .i64 c) v).run Try.prog w = .ok () w' ∧ IMc w' b (n + 1) (updF F c v) (if (F c).isSome = true then k else k + 1) ∧ w.grownBy w' (some b) := by
  obtain ⟨D, h1, h2, ht1, ht2⟩ := h
  obtain ⟨w', hrun, h3, h4⟩ := h1.update keyInt ht hn (val := v) (d := .held v) (ps := []) (keyOf_int_mk Try.underlying3 hc) rfl
  refine ⟨w', hrun, ⟨_, h3, fun x => ?_, ht1.put (by trivial) _, by rw [Maps.size_put ht1, (h2 c).1, ht2]⟩, h4⟩
  by_cases e : x = c
  · subst e
    refine ⟨by rw [Maps.has_put_same h1.isMap (by trivial)]; simp [updF], fun u hu z => ?_⟩
    simp only [updF, if_pos, Option.some.injEq] at hu
    rw [Maps.atKey_put_same h1.isMap (by trivial), hu]
  · obtain ⟨ha, hb⟩ := h2 x
    refine ⟨by rw [Maps.has_put_other (int_ne e), ha]; simp [updF, e], fun u hu z => ?_⟩
    simp only [updF, if_neg e] at hu
    rw [Maps.atKey_put_other (int_ne e)]
    exact hb u hu z
theorem IMc.del {w : World} {b n k : Nat} {F : Int → Option Value} (h : IMc w b n F k) {T e : TypeId} (ht : Try.prog.underlying T = some (.map 3 e)) {c : Int} (hc : (Lit.int .i64 c).wf = true) (ty : TypeId) :
    ∃ w', (Builtin.delete_ #[T, 3] ty #[.map (some b), .int .i64 c]).run Try.prog w = .ok (.tuple #[]) w' ∧ IMc w' b n (delF F c) (if (F c).isSome = true then k - 1 else k) ∧ w.grownBy w' (some b) := by
  obtain ⟨D, h1, h2, ht1, ht2⟩ := h
  obtain ⟨w', hrun, h3, h4⟩ := h1.drop keyInt ht (keyOf_int_mk Try.underlying3 hc) ty
  refine ⟨w', hrun, ⟨_, h3, fun x => ?_, ht1.del _, ?_⟩, h4.grown⟩
  · by_cases e : x = c
    · subst e
      exact ⟨by rw [Maps.has_del_same]; simp [delF], fun u hu => by simp [delF] at hu⟩
    · obtain ⟨ha, hb⟩ := h2 x
      refine ⟨by rw [Maps.has_del_other (int_ne e), ha]; simp [delF, e], fun u hu z => ?_⟩
      simp only [delF, if_neg e] at hu
      rw [Maps.atKey_del_other (int_ne e)]
      exact hb u hu z
  · have h5 := Maps.size_del (k := .int .i64 c) ht1
    rw [(h2 c).1, ht2] at h5
    split at h5 <;> rename_i hh <;> simp only [hh] <;> simp <;> omega
theorem upd_Ic {ops : Array Oper} {rest : List Oper} {o : Oper} {a : Act} {Q : Exit → Act → World → Prop} (w : World) (hg : o.guard = none) (m x v : Operand) (t e : TypeId) (hop : o.op = Op.mapUpdate t m x v)
    (ht : Try.prog.underlying t = some (.map 3 e)) {b n k : Nat} {F : Int → Option Value} (hm : a.eval m = .map (some b)) (h : IMc w b n F k) (hn : n < maxLen) {c : Int} {val : Value} (hx : a.eval x = .int .i64 c) (hv : a.eval v = val)
    (hc : (Lit.int .i64 c).wf = true) (hK : ∀ w', IMc w' b (n + 1) (updF F c val) (if (F c).isSome = true then k else k + 1) → w.grownBy w' (some b) → wpList Try.prog ops Q rest (a.put o.dst undef) w') :
    wpList Try.prog ops Q (o :: rest) a w := by
  refine wpList_plain hg fun K' hK' => ?_
  obtain ⟨w', hrun, r1, r2⟩ := h.upd ht hn hc val
  unfold Oper.wp
  simp [execOp, hop, hm, hx, hv, hrun, Result.andThen]
  exact hK' _ _ (hK w' r1 r2)
end Go.Proofs.Ytccibfldadflkaa

/- A drawn region whose last operation need not keep what the others hold: so a load of the cell that the last store writes is taken first, too. No statement is proved here. -/
namespace Go.Proofs.Ytccibfldadflkaa
open Go.RowKit

section
variable {P : Program} {md : Region.Mode} {ops : Array Oper} {Q : Exit → Act → World → Prop} {S : World → Prop}

/-- 'wpAnyH', but behind the last operation S is not asked. -/
def wpAnyL (P : Program) (md : Region.Mode) (ops : Array Oper) (Q : Exit → Act → World → Prop) (S : World → Prop) : Nat → Array Bool → Act → World → Prop
  | 0, listed, a, w => Region.ready md ops listed = [] ∧ Q .normal a w
  | fuel + 1, listed, a, w =>
    (Region.ready md ops listed = [] → Q .normal a w) ∧
    ∀ i ∈ Region.ready md ops listed, wpOp P ops Q i (fun a' w' => ((listed.setIfInBounds i true).all id = false → S w') ∧ wpAnyL P md ops Q S fuel (listed.setIfInBounds i true) a' w') a w
theorem wpAny_of_last : ∀ (fuel : Nat) (listed : Array Bool) (a : Act) (w : World), wpAnyL P md ops Q S fuel listed a w → wpAny P md ops Q fuel listed a w
  | 0, _, _, _, h => h
  | fuel + 1, _, _, _, h => ⟨h.1, fun i hi => wpOp_mono (fun a' w' h' => wpAny_of_last fuel _ a' w' h'.2) (h.2 i hi)⟩
/-- Does some operation that has not come up wait for number i? -/
def waitsFor (md : Region.Mode) (ops : Array Oper) (listed : Array Bool) (i k : Nat) : Bool :=
  !(listed.getD k true) && (!(k == i) && match ops[k]? with | some o => o.after.any (fun e => Region.binds md e && e.on == i) | none => false)
theorem not_all {listed : Array Bool} {k : Nat} (h : listed.getD k true = false) : listed.all id = false := by
  rw [Bool.eq_false_iff]
  intro hall
  have h1 := Array.all_eq_true.1 hall
  by_cases hk : k < listed.size
  · have h2 := h1 k hk
    rw [Array.getD_eq_getD_getElem?, Array.getElem?_eq_getElem hk] at h
    simp only [Option.getD_some] at h
    simp only [id] at h2
    rw [h] at h2
    cases h2
  · rw [Array.getD_eq_getD_getElem?, Array.getElem?_eq_none (by omega)] at h
    cases h
theorem wpAnyL_first {i : Nat} {oi : Oper} {v : Value} (hi : ops[i]? = some oi) (hsel : ∀ (j : Nat) (o : Oper) cs b, ops[j]? = some o → o.op ≠ .select cs b)
    (hQ : ∀ c a w, Q (.panic c) (a.put oi.dst v) w → Q (.panic c) a w) (k : Nat) :
    ∀ (fuel : Nat) (listed : Array Bool) (a : Act) (w : World), waitsFor md ops listed i k = true →
      (∀ j oj, ops[j]? = some oj → j ≠ i → listed.getD j true = false → (∀ e ∈ oj.after, Region.binds md e = true → e.on ≠ i) → oi.apart ops oj = true) →
      i ∈ Region.ready md ops listed → YieldsIf P ops S oi v a → S w →
      wpAnyL P md ops Q S fuel (listed.setIfInBounds i true) (a.put oi.dst v) w → wpAnyL P md ops Q S (fuel + 1) listed a w := by
  intro fuel
  induction fuel with
  | zero =>
    intro listed a w _ _ hr hy hS H
    refine ⟨fun h => (by rw [h] at hr; cases hr), fun j hj => ?_⟩
    by_cases hji : j = i
    · subst hji; exact hy.wpOp hi hS ⟨fun _ => hS, H⟩
    · have := ready_mono hj hji
      rw [H.1] at this
      cases this
  | succ fuel ih =>
    intro listed a w hw hfree hr hy hS H
    refine ⟨fun h => (by rw [h] at hr; cases hr), fun j hj => ?_⟩
    by_cases hji : j = i
    · subst hji; exact hy.wpOp hi hS ⟨fun _ => hS, H⟩
    · have h1 := H.2 j (ready_mono hj hji)
      obtain ⟨hjun, oj, hoj, hall⟩ := mem_ready.1 hj
      have hnot : ∀ e ∈ oj.after, Region.binds md e = true → e.on ≠ i := fun e he hb heq => by
        have h1 := hall e he hb
        have h0 := (mem_ready.1 hr).1
        rw [heq] at h1
        rcases Nat.lt_or_ge i listed.size with h' | h'
        · simp [h'] at h0 h1; rw [h0] at h1; cases h1
        · simp [Array.getElem?_eq_none h'] at h1
      have hw0 := hw
      unfold waitsFor at hw0
      simp only [Bool.and_eq_true, Bool.not_eq_true', beq_eq_false_iff_ne, ne_eq] at hw0
      obtain ⟨hk0, hki, hkw⟩ := hw0
      have hkj : j ≠ k := by
        intro e
        subst e
        rw [hoj] at hkw
        obtain ⟨x, hx, hx2⟩ := Array.any_eq_true'.1 hkw
        simp only [Bool.and_eq_true, beq_iff_eq] at hx2
        exact hnot x hx hx2.1 hx2.2
      have hkl : (listed.setIfInBounds j true).getD k true = false := by rw [getD_set_ne true hkj]; exact hk0
      have hkl2 : ((listed.setIfInBounds i true).setIfInBounds j true).getD k true = false := by rw [getD_set_ne true hkj, getD_set_ne true (Ne.symm hki)]; exact hk0
      have hw' : waitsFor md ops (listed.setIfInBounds j true) i k = true := by
        unfold waitsFor
        rw [hkl]
        simp only [Bool.not_false, Bool.true_and, Bool.and_eq_true, Bool.not_eq_true', beq_eq_false_iff_ne, ne_eq]
        exact ⟨hki, hkw⟩
      have h2 := wpOp_putIf hoj (hfree j oj hoj hji hjun hnot) (fun cs b => hsel i oi cs b hi) (fun cs b => hsel j oj cs b hoj) hQ hy h1
      have hfree' : ∀ k ok, ops[k]? = some ok → k ≠ i → (listed.setIfInBounds j true).getD k true = false →
          (∀ e ∈ ok.after, Region.binds md e = true → e.on ≠ i) → oi.apart ops ok = true := fun k ok hk hki hun hno => by
        refine hfree k ok hk hki ?_ hno
        by_cases hjk : j = k
        · subst hjk; exact hjun
        · rw [getD_set_ne true hjk] at hun; exact hun
      refine wpOp_mono (fun a' w' h3 => ⟨fun _ => h3.2.1 (not_all hkl2), ih (listed.setIfInBounds j true) a' w' hw' hfree' (ready_mono hr (Ne.symm hji)) h3.1 (h3.2.1 (not_all hkl2)) ?_⟩) h2
      rw [Array.setIfInBounds_comm _ _ hji]
      exact h3.2.2
/-- Taken first (the side conditions for 'kernel_rfl'). -/
theorem tkL {oi : Oper} {fuel : Nat} {listed : Array Bool} {a : Act} {w : World} (d : Option Nat) (i : Nat) (v : Value) (hi : ops[i]? = some oi) (hd : oi.dst = d)
    (hc : (Region.noSelect ops && (Region.free md ops listed i && ((Region.ready md ops listed).contains i && (List.range ops.size).any (waitsFor md ops listed i)))) = true)
    (hQ : ∀ c a w, Q (.panic c) (a.put d v) w → Q (.panic c) a w) (hy : YieldsIf P ops S oi v a) (hS : S w)
    (h : wpAnyL P md ops Q S fuel (listed.setIfInBounds i true) (a.put d v) w) : wpAnyL P md ops Q S (fuel + 1) listed a w := by
  subst hd
  simp only [Bool.and_eq_true] at hc
  obtain ⟨k, -, hk⟩ := List.any_eq_true.1 hc.2.2.2
  exact wpAnyL_first hi (Region.noSelect_spec hc.1) hQ k fuel listed a w hk (Region.free_spec hi hc.2.1) (by simpa using hc.2.2.1) hy hS h
theorem wpAnyL_done {listed : Array Bool} {a : Act} {w : World} (hr : Region.ready md ops listed = []) (h : Q .normal a w) : ∀ fuel, wpAnyL P md ops Q S fuel listed a w
  | 0 => ⟨hr, h⟩
  | _ + 1 => ⟨fun _ => h, by rw [hr]; simp⟩
/-- One that comes up next; it is the only one. -/
theorem oneL {i : Nat} {o : Oper} {fuel : Nat} {listed : Array Bool} {a : Act} {w : World} (ho : ops[i]? = some o) (hr : Region.ready md ops listed = [i])
    (h : ∀ K' : Act → World → Prop, Shut (∀ a w, S w → (S w → wpAnyL P md ops Q S fuel (listed.setIfInBounds i true) a w) → K' a w) → if Region.wanted o (yielded ops a.tmps) = true then Oper.wp P o a w K' Q else K' (a.put o.dst undef) w) :
    wpAnyL P md ops Q S (fuel + 1) listed a w :=
  ⟨fun h0 => (by rw [hr] at h0; cases h0), fun j hj => by
    rw [hr] at hj
    obtain rfl : j = i := by simpa using hj
    exact wpOp_step ho (fun K' hK => h K' (fun a w hS hW => hK a w ⟨fun _ => hS, hW hS⟩))⟩
/-- The last one: behind it only the rest is asked. -/
theorem lastL {i : Nat} {o : Oper} {fuel : Nat} {listed : Array Bool} {a : Act} {w : World} (ho : ops[i]? = some o) (hr : Region.ready md ops listed = [i]) (hl : ((listed.setIfInBounds i true).all id && (Region.ready md ops (listed.setIfInBounds i true)).isEmpty) = true)
    (h : ∀ K' : Act → World → Prop, Shut (∀ a w, Q .normal a w → K' a w) → if Region.wanted o (yielded ops a.tmps) = true then Oper.wp P o a w K' Q else K' (a.put o.dst undef) w) :
    wpAnyL P md ops Q S (fuel + 1) listed a w :=
  ⟨fun h0 => (by rw [hr] at h0; cases h0), fun j hj => by
    rw [hr] at hj
    obtain rfl : j = i := by simpa using hj
    rw [Bool.and_eq_true, List.isEmpty_iff] at hl
    exact wpOp_step ho (fun K' hK => h K' (fun a w hQ => hK a w ⟨(fun hf => by rw [hl.1] at hf; cases hf), wpAnyL_done hl.2 hQ _⟩))⟩
theorem wp_region_last {id : Nat} {a : Act} {w : World} (hm : P.follows .mixedOrders = true) (hS : S w.drew)
    (h : S w.drew → wpAnyL P .any ops Q S ops.size (Array.replicate ops.size false) a w.drew) : (Code.region id ops true).wp P Q a w :=
  wp_region_any hm (wpAny_of_last _ _ _ _ (h hS))
theorem wpIn_round_last {l n id : Nat} {a : Act} {w : World} (hm : P.follows .mixedOrders = true) (hd : noDefer ops = true) (hL : ¬ LetsOut Q) (hS : S w.drew)
    (h : S w.drew → wpAnyL P .any ops Q S ops.size (Array.replicate ops.size false) a w.drew) : (Code.region id ops true).wpIn (Fence.wide.inRound l) n P Q a w :=
  wpIn_region_draw fun t => by
    simp only [Region.schedule, hm, Bool.true_or, if_true]
    have hd' : ∀ (i : Nat) (o : Oper), ops[i]? = some o → ∀ c, o.op ≠ .defer c := fun i o ho c e => by
      have h1 := List.all_eq_true.1 hd o (Array.mem_toList_iff.2 (Array.mem_of_getElem? ho))
      rw [e] at h1; cases h1
    exact opsIn_of_ops hd' hL _ _ _ (wpAny_sound ops.size t _ a _ (wpAny_of_last _ _ _ _ (h hS)))
end
end Go.Proofs.Ytccibfldadflkaa
