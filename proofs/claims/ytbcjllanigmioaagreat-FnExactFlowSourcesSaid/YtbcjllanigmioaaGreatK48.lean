/- The texts G51 G52, joined. No statement is proved here. -/
import Derived.Test.YtbcjllanigmioaaGreatK52
import Derived.Test.YtbcjllanigmioaaGreatK45
import Derived.StillTailTactics
import Derived.Test.YtbcjllanigmioaaGreatK49
/- The model's InputCells. No statement is proved here. -/
namespace Go.Proofs.YtbcjllanigmioaaGreat
open Go.RowKit Go.Maps

theorem reads_bd {ars : List Arr} {s : St} {pt : List Int} (hok : ∀ a ∈ ars, arrOkB a = true) (h : cellsOk ars s pt = true) : ∀ c ∈ readCells ars s pt, 0 ≤ c ∧ c < totN ars := by
  intro c hc
  simp only [cellsOk, Bool.and_eq_true, List.all_eq_true, decide_eq_true_eq] at h
  have h0 := h.1 c hc
  simp only [readCells, List.mem_map] at hc
  obtain ⟨a, -, rfl⟩ := hc
  have h1 := cellI_bd a.1 a.2 pt (base := 0) hok
  omega
end Go.Proofs.YtbcjllanigmioaaGreat

/- The program's InputCells. No statement is proved here. -/
namespace Go.Proofs.YtbcjllanigmioaaGreat
open Go.RowKit Go.Maps

theorem upd_I {ops : Array Oper} {rest : List Oper} {o : Oper} {a : Act} {Q : Exit → Act → World → Prop} (w : World) (hg : o.guard = none) (m x v : Operand) (t e : TypeId) (hop : o.op = Op.mapUpdate t m x v)
    (ht : Tryz.prog.underlying t = some (.map 3 e)) {b n : Nat} {F : Int → Option Value} (hm : a.eval m = .map (some b)) (h : IMp w b n F) (hn : n < maxLen) {c : Int} {val : Value} (hx : a.eval x = .int .i64 c) (hv : a.eval v = val)
    (hc : (Lit.int .i64 c).wf = true) (hK : ∀ w', IMp w' b (n + 1) (updF F c val) → w.grownBy w' (some b) → wpList Tryz.prog ops Q rest (a.put o.dst undef) w') :
    wpList Tryz.prog ops Q (o :: rest) a w := by
  refine wpList_plain hg fun K' hK' => ?_
  obtain ⟨w', hrun, r1, r2⟩ := h.upd ht hn hc val
  unfold Oper.wp
  simp [execOp, hop, hm, hx, hv, hrun, Result.andThen]
  exact hK' _ _ (hK w' r1 r2)
theorem ev_of {ars : List Arr} {ps : List Pt} {u : Us} (h : u ∈ (evsOf ars ps).map (·.2)) : ∃ y ∈ insM ps, u = useOf ars y := by
  rw [← usesM_ev] at h
  unfold usesM at h
  obtain ⟨y, hy, rfl⟩ := List.mem_map.1 h
  exact ⟨y, hy, rfl⟩
theorem ev_reads {ars : List Arr} {ps : List Pt} (hb : progB ars ps = true) : ∀ u ∈ (evsOf ars ps).map (·.2), u.1.length ≤ 1000 := by
  intro u hu
  obtain ⟨y, hy, rfl⟩ := ev_of hu
  obtain ⟨x, -, -, -, -, hvb, -⟩ := insM_good hb hy
  show (readCells ars y.2 y.1.2.2).length ≤ 1000
  unfold readCells
  rw [List.length_map]
  obtain ⟨-, -, hcnt⟩ := valid_shape hvb
  have h3 := reads_len 5 y.2.2.2
  omega
theorem ev_cells {ars : List Arr} {ps : List Pt} (hb : progB ars ps = true) : ∀ u ∈ (evsOf ars ps).map (·.2), (∀ c ∈ u.1, 0 ≤ c ∧ c < ((totN ars).toNat : Int)) ∧ 0 ≤ u.2 ∧ u.2 < ((totN ars).toNat : Int) := by
  intro u hu
  obtain ⟨y, hy, rfl⟩ := ev_of hu
  obtain ⟨x, -, -, -, -, -, hck⟩ := insM_good hb hy
  have hab := progB_arrs hb
  have hok : ∀ a ∈ ars, arrOkB a = true := by have h := hab; simp only [arrsB, Bool.and_eq_true, List.all_eq_true] at h; exact h.1
  have ht := (totN_bd hok).1
  refine ⟨fun c hc => ?_, ?_⟩
  · have := reads_bd hok hck c hc; omega
  · have h1 := write_bd hok hck
    have h2 : (useOf ars y).2 = writeCell ars y.2 y.1.2.2 := rfl
    rw [h2]; omega
theorem tot_lt {ars : List Arr} {ps : List Pt} (hb : progB ars ps = true) : (totN ars).toNat ≤ 1048576 := by
  have hab := progB_arrs hb
  have hok : ∀ a ∈ ars, arrOkB a = true := by have h := hab; simp only [arrsB, Bool.and_eq_true, List.all_eq_true] at h; exact h.1
  have := (totN_bd hok).2
  have := arrs_len hab
  omega
end Go.Proofs.YtbcjllanigmioaaGreat
