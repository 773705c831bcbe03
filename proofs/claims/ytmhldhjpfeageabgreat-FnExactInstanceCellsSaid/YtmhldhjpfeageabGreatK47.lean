/- The texts G51 G52 G53 G55, joined. No statement is proved here. -/
import Derived.Test.YtmhldhjpfeageabGreatK48
import Derived.Test.YtmhldhjpfeageabGreatK43
import Derived.StillTailTactics
/- The model's InputCells. No statement is proved here. -/
namespace Go.Proofs.YtmhldhjpfeageabGreat
open Go.RowKit Go.Maps
theorem reads_bd {ars : List Arr} {s : St} {pt : List Int} (hok : ∀ a ∈ ars, arrOkB a = true) (h : cellsOk ars s pt = true) : ∀ c ∈ readCells ars s pt, 0 ≤ c ∧ c < totN ars := by
 intro c hc
 simp only [cellsOk, Bool.and_eq_true, List.all_eq_true, decide_eq_true_eq] at h
 have h0 := h.1 c hc
 simp only [readCells, List.mem_map] at hc
 obtain ⟨a, -, rfl⟩ := hc
 have h1 := cellI_bd a.1 a.2 pt (base := 0) hok
 omega
end Go.Proofs.YtmhldhjpfeageabGreat
/- The program's InputCells. No statement is proved here. -/
namespace Go.Proofs.YtmhldhjpfeageabGreat
open Go.RowKit Go.Maps
theorem zeroB (w : World) : (zeroValue 4).run Tryz.prog w = .ok (.bool false) w := by kernel_rfl
def setFn (ws : List Int) : Int → Option Value := fun c => if c ∈ ws then some (.bool true) else none
theorem setFn_upd (ws : List Int) (c : Int) : updF (setFn ws) c (.bool true) = setFn (ws ++ [c]) := by
 funext x
 unfold updF setFn
 by_cases e : x = c
 ·subst e; simp
 ·simp [e]
theorem setFn_get (ws : List Int) (c : Int) : (setFn ws c).getD (.bool false) = .bool (decide (c ∈ ws)) := by
 unfold setFn
 by_cases h : c ∈ ws
 ·rw [if_pos h, decide_eq_true h]; rfl
 ·rw [if_neg h, decide_eq_false h]; rfl
theorem upd_I {ops : Array Oper} {rest : List Oper} {o : Oper} {a : Act} {Q : Exit → Act → World → Prop} (w : World) (hg : o.guard = none) (m x v : Operand) (t e : TypeId) (hop : o.op = Op.mapUpdate t m x v)
  (ht : Tryz.prog.underlying t = some (.map 3 e)) {b n : Nat} {F : Int → Option Value} (hm : a.eval m = .map (some b)) (h : IMp w b n F) (hn : n < maxLen) {c : Int} {val : Value} (hx : a.eval x = .int .i64 c) (hv : a.eval v = val)
  (hc : (Lit.int .i64 c).wf = true) (hK : ∀ w', IMp w' b (n + 1) (updF F c val) → w.grownBy w' (some b) → wpList Tryz.prog ops Q rest (a.put o.dst undef) w') :
  wpList Tryz.prog ops Q (o :: rest) a w := by
 refine wpList_plain hg fun K' hK' => ?_
 obtain ⟨w', hrun, r1, r2⟩ := h.upd ht hn hc val
 unfold Oper.wp
 simp [execOp, hop, hm, hx, hv, hrun, Result.andThen]
 exact hK' _ _ (hK w' r1 r2)
theorem ev_of {ars : List Arr} {ps : List Pt} {u : Us} (h : u ∈ (evsOf ars ps).map (·.2)) : ∃ y ∈ insM ps, u = useOf ars y := by
 rw [← usesM_ev] at h
 unfold usesM at h
 obtain ⟨y, hy, rfl⟩ := List.mem_map.1 h
 exact ⟨y, hy, rfl⟩
theorem ev_reads {ars : List Arr} {ps : List Pt} (hb : progB ars ps = true) : ∀ u ∈ (evsOf ars ps).map (·.2), u.1.length ≤ 1000 := by
 intro u hu
 obtain ⟨y, hy, rfl⟩ := ev_of hu
 obtain ⟨x, -, -, -, -, hvb, -⟩ := insM_good hb hy
 show (readCells ars y.2 y.1.2.2).length ≤ 1000
 unfold readCells
 rw [List.length_map]
 obtain ⟨-, -, hcnt⟩ := valid_shape hvb
 have h3 := reads_len 5 y.2.2.2
 omega
theorem ev_cells {ars : List Arr} {ps : List Pt} (hb : progB ars ps = true) : ∀ u ∈ (evsOf ars ps).map (·.2), (∀ c ∈ u.1, 0 ≤ c ∧ c < ((totN ars).toNat : Int)) ∧ 0 ≤ u.2 ∧ u.2 < ((totN ars).toNat : Int) := by
 intro u hu
 obtain ⟨y, hy, rfl⟩ := ev_of hu
 obtain ⟨x, -, -, -, -, -, hck⟩ := insM_good hb hy
 have hab := progB_arrs hb
 have hok : ∀ a ∈ ars, arrOkB a = true := by have h := hab; simp only [arrsB, Bool.and_eq_true, List.all_eq_true] at h; exact h.1
 have ht := (totN_bd hok).1
 refine ⟨fun c hc => ?_, ?_⟩
 ·have := reads_bd hok hck c hc; omega
 ·have h1 := write_bd hok hck
  have h2 : (useOf ars y).2 = writeCell ars y.2 y.1.2.2 := rfl
  rw [h2]; omega
theorem tot_lt {ars : List Arr} {ps : List Pt} (hb : progB ars ps = true) : (totN ars).toNat ≤ 1048576 := by
 have hab := progB_arrs hb
 have hok : ∀ a ∈ ars, arrOkB a = true := by have h := hab; simp only [arrsB, Bool.and_eq_true, List.all_eq_true] at h; exact h.1
 have := (totN_bd hok).2
 have := arrs_len hab
 omega
end Go.Proofs.YtmhldhjpfeageabGreat
/- Dead instances: pure facts, the model's l6Dead and DeadInstances. No statement is proved here. -/
namespace Go.Proofs.YtmhldhjpfeageabGreat
open Go.RowKit Go.Maps
theorem UsesOwn.lvB {B : Nat} {D : Nat → Prop} {w w' : World} {v : Value} {l : List Us} (h : UsesOwn B w v l) (hv : Lv D w w') (hD : ∀ b, B ≤ b → b < w.heap.size → ¬ D b) : UsesOwn B w' v l := by
 obtain ⟨cs, ho, he⟩ := h
 exact ⟨cs, row_lvB ho hv hD, fun i x hi => by obtain ⟨u0, u1, h0, h1, h2⟩ := he i x hi; exact ⟨u0, u1, h0, h1, row_lvB h2.1 hv hD, h2.2⟩⟩
end Go.Proofs.YtmhldhjpfeageabGreat
/- Flow sources: pure facts, the model's l6Source and FlowSources. No statement is proved here. -/
namespace Go.Proofs.YtmhldhjpfeageabGreat
open Go.RowKit Go.Maps
def lastW (us : List Us) : Nat → Int → Option Nat
 | 0, _ => none
 | k + 1, c => match us[k]? with
  | none => lastW us k c
  | some u => if c = u.2 then some k else lastW us k c
def srcI : Option Nat → Int
 | none => -1
 | some n => (n : Int)
def srcB (us : List Us) (t : Nat) : List Int := match us[t]? with
 | none => []
 | some u => u.1.map (fun c => srcI (lastW us t c))
theorem lastW_next {us : List Us} {k : Nat} {u : Us} (c : Int) (h : us[k]? = some u) : lastW us (k + 1) c = if c = u.2 then some k else lastW us k c := by simp only [lastW, h]
theorem srcB_at {us : List Us} {t : Nat} {u : Us} (h : us[t]? = some u) : srcB us t = u.1.map (fun c => srcI (lastW us t c)) := by unfold srcB; rw [h]
set_option linter.unusedVariables false in
set_option linter.unusedSimpArgs false in
set_option maxRecDepth 100000 in
set_option maxHeartbeats 2000000 in
theorem l6Source_any (B : Nat) (p : Option Addr) (n c : Nat) (us : List Us) (t : Nat) (cl : Int) (w : World) (hn : us.length = n) (hn2 : n ≤ 1000) (htn : t ≤ n) (hu : UsesOwn B w (.slice p n c) us) :
  Calls Tryz.prog 68 #[.slice p n c, .int .i64 (t : Int), .int .i64 cl] w fun e w' => e = .returned (.int .i64 (srcI (lastW us t cl))) ∧ Ext w w' := by
 obtain ⟨ans, hans⟩ : ∃ z, srcI (lastW us t cl) = z := ⟨_, rfl⟩
 rw [hans]
 have HANS := Lib.hid hans; have HN := Lib.hid hn; have HU := Lib.hid hu
 clear hn hu hans
 go_enter Tryz.func68, Tryz.ntmps68
 go_wp2
 go_loopw [7] (fun iv wr => ∃ x : Int, -1 ≤ x ∧ x < (t : Int) ∧ iv = .int .i64 x ∧ srcI (lastW us (x + 1).toNat cl) = ans ∧ Ext w wr) (fun iv _ => (intOf iv + 1).toNat)
 case atStart => exact ⟨(t : Int) - 1, by omega, by omega, by go_num, by rw [show ((t : Int) - 1 + 1).toNat = t by omega]; exact HANS.out, Ext.refl w⟩
 case round =>
  obtain ⟨x, hx1, hxt, rfl, hs, hE⟩ := hrel
  have HS := Lib.hid hs; have HE := Lib.hid hE
  clear hs hE
  by_cases h0 : 0 ≤ x
  ·obtain ⟨i, rfl⟩ : ∃ i : Nat, x = i := ⟨x.toNat, by omega⟩
   obtain ⟨y, hy⟩ := get_some (xs := us) (k := i) (by rw [HN.out]; omega)
   have HU' := Lib.hid (HU.out.ext HE.out)
   obtain ⟨o, s, sk, rfl, -, z0, z1, -⟩ := HU'.out.elem hy
   have HST : Hid (ans = srcI (if cl = y.2 then some i else lastW us i cl)) := Lib.hid (by rw [← lastW_next cl hy, ← HS.out]; rfl)
   have hiI : (i : Int) < (n : Int) := by omega
   have hb0 : decide ((0 : Int) ≤ (i : Int)) = true := by simp
   clear hy z0
   by_cases he : y.2 = cl
   ·have hb : (y.2 == cl) = true := by simpa using he
    have HR : Hid (ans = (i : Int)) := Lib.hid (by rw [HST.out, if_pos he.symm]; rfl)
    clear he
    go_wp2
    go_ret
    exact ⟨ret_int HR.out.symm, HE.out⟩
   ·have hb : (y.2 == cl) = false := by simpa using he
    have HR : Hid (srcI (lastW us ((i : Int) - 1 + 1).toNat cl) = ans) := Lib.hid (by rw [HST.out, if_neg (Ne.symm he), show ((i : Int) - 1 + 1).toNat = i by omega])
    clear he
    go_wp2
    go_roundw
    case rel => exact ⟨(i : Int) - 1, by omega, by omega, by go_num, HR.out, HE.out⟩
    case measure => simp [intOf] <;> omega
  ·obtain rfl : x = -1 := by omega
   have HR : Hid (ans = -1) := Lib.hid (by rw [← HS.out]; rfl)
   go_wp2
   go_ret
   exact ⟨ret_int HR.out.symm, HE.out⟩
end Go.Proofs.YtmhldhjpfeageabGreat
