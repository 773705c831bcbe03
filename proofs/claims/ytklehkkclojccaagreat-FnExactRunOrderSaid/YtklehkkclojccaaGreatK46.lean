/- The texts G29 E2c, joined. No statement is proved here. -/
import Derived.Test.YtklehkkclojccaaGreatK53
import Derived.Test.YtklehkkclojccaaGreatK49
import Derived.Test.YtklehkkclojccaaGreatK34
/- Memories: MemoryValid of the model; the program's check of values. No statement is proved here. -/
namespace Go.Proofs.YtklehkkclojccaaGreat
open Go.RowKit Go.Maps
def memB (ars : List Arr) (ps : List Pt) (xs : List Int) : Bool := valsB xs && (progB ars ps && decide ((xs.length : Int) = totN ars))
set_option linter.unusedVariables false in
set_option linter.unusedSimpArgs false in
set_option maxRecDepth 100000 in
set_option maxHeartbeats 2000000 in
theorem specMemoryValid_any (v : Value) (ars : List Arr) (ps : List Pt) (p : Option Addr) (n c : Nat) (xs : List Int) (w : World) (hp : PrR w v ars ps) (hn : xs.length = n) (hs : IntsAt w (.slice p n c) xs) :
  Calls Tryz.prog 57 #[v, .slice p n c] w fun e w' => e = .returned (.bool (memB ars ps xs)) ∧ Ext w w' := by
 obtain ⟨qa, ca, qp, cp, rfl, -, -, -, -⟩ := hp.parts
 obtain ⟨na, hna⟩ : ∃ n, ars.length = n := ⟨_, rfl⟩
 obtain ⟨np, hnp⟩ : ∃ n, ps.length = n := ⟨_, rfl⟩
 rw [hna, hnp] at hp ⊢
 obtain ⟨hm, hc⟩ := hs.cl
 have HP := Lib.hid hp; have HN := Lib.hid hn; have HC := Lib.hid hc
 obtain ⟨ans, hans⟩ : ∃ a, memB ars ps xs = a := ⟨_, rfl⟩
 rw [hans]
 obtain ⟨pb, hpb⟩ : ∃ a, progB ars ps = a := ⟨_, rfl⟩
 have HANS := Lib.hid hans; have HPB := Lib.hid hpb
 clear hp hn hs hna hnp hans hpb hc
 go_enter Tryz.func57, Tryz.ntmps57
 go_wp2
 obtain ⟨W0, hW0⟩ : ∃ W0, w.alloc (.cells #[.slice qa na ca, .slice qp np cp] 32) = W0 := ⟨_, rfl⟩
 have E0 : Hid (Ext w W0) := Lib.hid (by rw [← hW0]; exact (Ext.refl w).alloc _)
 have B0 := Lib.hid (show W0.heap[w.heap.size]? = some (.cells #[.slice qa na ca, .slice qp np cp] 32 (0, 0)) by rw [← hW0]; exact blk_at rfl)
 rw [hW0]
 clear hW0
 go_loopw [5] (fun i wr => ∃ k : Nat, k ≤ n ∧ i = .int .i64 k ∧ valsB (xs.take k) = true ∧ Ext W0 wr) (fun i _ => n - (intOf i).toNat)
 case atStart => exact ⟨0, by omega, rfl, by simp [valsB], Ext.refl _⟩
 case round =>
  obtain ⟨k, hk, rfl, hv, hE⟩ := hrel
  have HV := Lib.hid hv; have HE := Lib.hid hE; have HEW := Lib.hid (E0.out.trans hE)
  clear hv hE
  by_cases hlt : k < n
  ·obtain ⟨x, hx⟩ := get_some (xs := xs) (k := k) (by rw [HN.out]; exact hlt)
   obtain ⟨b, off, rfl, hcell⟩ := HC.out k x hx
   have hcl := HEW.out.keep hcell
   have HX := Lib.hid hx
   clear hx hcell
   by_cases h0 : x < 0
   ·have hb : decide (x < 0) = true := by simpa using h0
    have HR : Hid (ans = false) := Lib.hid (by rw [← HANS.out]; unfold memB; rw [vals_no HX.out (by omega)]; rfl)
    go_wp2
    go_ret
    exact ⟨ret_bool HR.out.symm, HEW.out⟩
   ·have hb : decide (x < 0) = false := by simpa using h0
    by_cases h1 : 999 < x
    ·have hb1 : decide (999 < x) = true := by simpa using h1
     have HR : Hid (ans = false) := Lib.hid (by rw [← HANS.out]; unfold memB; rw [vals_no HX.out (by omega)]; rfl)
     go_wp2
     go_ret
     exact ⟨ret_bool HR.out.symm, HEW.out⟩
    ·have hb1 : decide (999 < x) = false := by simpa using h1
     have HV2 := Lib.hid (vals_next HX.out HV.out ⟨by omega, by omega⟩)
     clear h0 h1
     go_wp2
     go_roundw
     case rel => exact ⟨k + 1, by omega, by go_num, HV2.out, HE.out⟩
     case measure => simp [intOf]; omega
  ·obtain rfl : k = n := by omega
   have HVA : Hid (valsB xs = true) := Lib.hid (by have h := HV.out; rw [List.take_of_length_le (by rw [HN.out]; omega)] at h; exact h)
   obtain ⟨y0, y1, -, -⟩ := blk2 (HE.out.blk B0.out)
   go_wp2_with (fail)
   refine (specProgramValid_any _ ars ps _ (HP.out.ext HEW.out)).mono ?_
   rw [HPB.out]
   rintro e w1 ⟨rfl, hE1⟩
   have E1 := Lib.hid (HEW.out.trans hE1); have B1 := Lib.hid ((HE.out.trans hE1).blk B0.out)
   clear hE1 y0 y1
   cases pb with
   | false =>
    have HR : Hid (ans = false) := Lib.hid (by rw [← HANS.out]; unfold memB; rw [HPB.out]; simp)
    go_wp2
    go_ret
    exact ⟨ret_bool HR.out.symm, E1.out⟩
   | true =>
    obtain ⟨y0, y1, -, -⟩ := blk2 B1.out
    go_wp2_with (fail)
    refine (l4Total_any _ ars ps _ (HP.out.ext E1.out) (progB_arrs HPB.out)).mono ?_
    rintro e w2 ⟨rfl, hE2⟩
    have E2 := Lib.hid (E1.out.trans hE2)
    obtain ⟨T, hT⟩ : ∃ T, totN ars = T := ⟨_, rfl⟩
    rw [hT]
    have HT := Lib.hid hT
    clear hE2 y0 y1 hT
    by_cases hq : (k : Int) = T
    ·have hb : ((k : Int) == T) = true := by simpa using hq
     have HR : Hid (ans = true) := Lib.hid (by rw [← HANS.out]; unfold memB; rw [HVA.out, HPB.out, HN.out, HT.out, decide_eq_true hq]; rfl)
     clear hq
     go_wp2
     go_ret
     exact ⟨ret_bool HR.out.symm, E2.out⟩
    ·have hb : ((k : Int) == T) = false := by simpa using hq
     have HR : Hid (ans = false) := Lib.hid (by rw [← HANS.out]; unfold memB; rw [HVA.out, HPB.out, HN.out, HT.out, decide_eq_false hq]; rfl)
     clear hq
     go_wp2
     go_ret
     exact ⟨ret_bool HR.out.symm, E2.out⟩
set_option linter.unusedVariables false in
set_option linter.unusedSimpArgs false in
set_option maxRecDepth 100000 in
set_option maxHeartbeats 2000000 in
theorem memValid_any (p : Option Addr) (n c : Nat) (T : Int) (xs : List Int) (w : World) (hn : xs.length = n) (hs : IntsAt w (.slice p n c) xs) :
  Calls Tryz.prog 109 #[.slice p n c, .int .i64 T] w fun e w' => e = .returned (.bool (valsB xs && decide ((xs.length : Int) = T))) ∧ Ext w w' := by
 obtain ⟨hm, hc⟩ := hs.cl
 have HN := Lib.hid hn; have HC := Lib.hid hc
 obtain ⟨ans, hans⟩ : ∃ a, (valsB xs && decide ((xs.length : Int) = T)) = a := ⟨_, rfl⟩
 rw [hans]
 have HANS := Lib.hid hans
 clear hn hs hans hc
 by_cases hq : (n : Int) = T
 ·have hb : ((n : Int) != T) = false := by simpa using hq
  have HQ := Lib.hid hq
  clear hq
  go_enter Tryz.func109, Tryz.ntmps109
  go_wp2
  go_loopw [13] (fun i wr => ∃ k : Nat, k ≤ n ∧ i = .int .i64 k ∧ valsB (xs.take k) = true ∧ Ext w wr) (fun i _ => n - (intOf i).toNat)
  case atStart => exact ⟨0, by omega, rfl, by simp [valsB], Ext.refl _⟩
  case round =>
   obtain ⟨k, hk, rfl, hv, hE⟩ := hrel
   have HV := Lib.hid hv; have HE := Lib.hid hE
   clear hv hE
   by_cases hlt : k < n
   ·obtain ⟨x, hx⟩ := get_some (xs := xs) (k := k) (by rw [HN.out]; exact hlt)
    obtain ⟨b, off, rfl, hcell⟩ := HC.out k x hx
    have hcl := HE.out.keep hcell
    have HX := Lib.hid hx
    clear hx hcell
    by_cases h0 : x < 0
    ·have hb : decide (x < 0) = true := by simpa using h0
     have HR : Hid (ans = false) := Lib.hid (by rw [← HANS.out, vals_no HX.out (by omega)]; rfl)
     go_wp2
     go_ret
     exact ⟨ret_bool HR.out.symm, HE.out⟩
    ·have hb : decide (x < 0) = false := by simpa using h0
     by_cases h1 : 999 < x
     ·have hb1 : decide (999 < x) = true := by simpa using h1
      have HR : Hid (ans = false) := Lib.hid (by rw [← HANS.out, vals_no HX.out (by omega)]; rfl)
      go_wp2
      go_ret
      exact ⟨ret_bool HR.out.symm, HE.out⟩
     ·have hb1 : decide (999 < x) = false := by simpa using h1
      have HV2 := Lib.hid (vals_next HX.out HV.out ⟨by omega, by omega⟩)
      clear h0 h1
      go_wp2
      go_roundw
      case rel => exact ⟨k + 1, by omega, by go_num, HV2.out, HE.out⟩
      case measure => simp [intOf]; omega
   ·obtain rfl : k = n := by omega
    have HR : Hid (ans = true) := Lib.hid (by have h := HV.out; rw [List.take_of_length_le (by rw [HN.out]; omega)] at h; rw [← HANS.out, h, HN.out, decide_eq_true HQ.out]; rfl)
    go_wp2
    go_ret
    exact ⟨ret_bool HR.out.symm, HE.out⟩
 ·have hb : ((n : Int) != T) = true := by simpa using hq
  have HR : Hid (ans = false) := Lib.hid (by rw [← HANS.out, HN.out, decide_eq_false hq, Bool.and_false])
  clear hq
  go_enter Tryz.func109, Tryz.ntmps109
  go_wp2
  go_ret
  exact ⟨ret_bool HR.out.symm, Ext.refl _⟩
end Go.Proofs.YtklehkkclojccaaGreat
/- Expressions compiled: compile returns a closure that computes the expression. No statement is proved here. -/
namespace Go.Proofs.YtklehkkclojccaaGreat
open Go.RowKit Go.Maps
def LB (c : Nat) (b1 b2 b3 : Bool) : Array Bool := #[true, true, true, decide (1 ≤ c), true, true, true, decide (2 ≤ c), true, true, decide (3 ≤ c), b1, b2, b3, decide (4 ≤ c), decide (5 ≤ c), decide (6 ≤ c)]
theorem ready_after {md : Region.Mode} {ops : Array Oper} {listed : Array Bool} {j : Nat} {o : Oper} (h : j ∈ Region.ready md ops listed) (ho : ops[j]? = some o) : listed.getD j true = false ∧ ∀ e ∈ o.after, Region.binds md e = true → listed.getD e.on false = true := by
 obtain ⟨h0, o', h1, h2⟩ := mem_ready.1 h
 rw [ho] at h1
 cases h1
 exact ⟨h0, h2⟩
structure CI (W2 : World) (B : Nat) (w1 : World) (mo : Option Nat) (T : Int) (ex ey : Ex) (kind : Int) (c : Nat) (b1 b2 b3 : Bool) (v31 v35 v38 v9 v10 v11 : Value) (g9 g10 g11 s1 e1 s2 e2 : Nat) (X : World) : Prop where
 ext : Ext W2 X
 x1 : 1 ≤ c → FnR (fun g => s1 ≤ g ∧ g < e1) B w1 mo T X v31 ex ∧ W2.heap.size ≤ s1 ∧ e1 ≤ X.heap.size
 x2 : 2 ≤ c → FnR (fun g => s2 ≤ g ∧ g < e2) B w1 mo T X v35 ey ∧ W2.heap.size ≤ s2 ∧ e2 ≤ X.heap.size
 x3 : 3 ≤ c → v38 = .func (.func (opF kind)) #[] #[]
 a1 : b1 = true → v9 = .pointer (some ⟨g9, 0, none⟩) ∧ W2.heap.size ≤ g9 ∧ X.heap[g9]? = some (.cells #[if 4 ≤ c then v31 else .nilFunc] 264 (0, 0)) ∧ (1 ≤ c → g9 < s1 ∨ e1 ≤ g9) ∧ (2 ≤ c → g9 < s2 ∨ e2 ≤ g9)
 a2 : b2 = true → v10 = .pointer (some ⟨g10, 0, none⟩) ∧ W2.heap.size ≤ g10 ∧ X.heap[g10]? = some (.cells #[if 5 ≤ c then v35 else .nilFunc] 264 (0, 0)) ∧ (1 ≤ c → g10 < s1 ∨ e1 ≤ g10) ∧ (2 ≤ c → g10 < s2 ∨ e2 ≤ g10)
 a3 : b3 = true → v11 = .pointer (some ⟨g11, 0, none⟩) ∧ W2.heap.size ≤ g11 ∧ X.heap[g11]? = some (.cells #[if 6 ≤ c then v38 else .nilFunc] 275 (0, 0)) ∧ (1 ≤ c → g11 < s1 ∨ e1 ≤ g11) ∧ (2 ≤ c → g11 < s2 ∨ e2 ≤ g11)
 ne : b1 = true → b2 = true → g9 ≠ g10
 all : 4 ≤ c → b1 = true ∧ b2 = true ∧ b3 = true
theorem CI.ext' {W2 : World} {B : Nat} {w1 : World} {mo : Option Nat} {T : Int} {ex ey : Ex} {kind : Int} {c : Nat} {b1 b2 b3 : Bool} {v31 v35 v38 v9 v10 v11 : Value} {g9 g10 g11 s1 e1 s2 e2 : Nat} {X X' : World} (h : CI W2 B w1 mo T ex ey kind c b1 b2 b3 v31 v35 v38 v9 v10 v11 g9 g10 g11 s1 e1 s2 e2 X) (hE : Ext X X') : CI W2 B w1 mo T ex ey kind c b1 b2 b3 v31 v35 v38 v9 v10 v11 g9 g10 g11 s1 e1 s2 e2 X' := by
 have hz := hE.size_le
 refine ⟨h.ext.trans hE, fun hc => ?_, fun hc => ?_, h.x3, fun hb => ?_, fun hb => ?_, fun hb => ?_, h.ne, h.all⟩
 ·obtain ⟨a, b, d⟩ := h.x1 hc; exact ⟨a.ext hE, b, by omega⟩
 ·obtain ⟨a, b, d⟩ := h.x2 hc; exact ⟨a.ext hE, b, by omega⟩
 ·obtain ⟨a, b, d, e, f⟩ := h.a1 hb; exact ⟨a, b, hE.blk d, e, f⟩
 ·obtain ⟨a, b, d, e, f⟩ := h.a2 hb; exact ⟨a, b, hE.blk d, e, f⟩
 ·obtain ⟨a, b, d, e, f⟩ := h.a3 hb; exact ⟨a, b, hE.blk d, e, f⟩
theorem keepC_set {C : Nat → Prop} {X : World} {g : Nat} (hg : ¬ C g) (u : Value) : KeepC C X (X.setCell ⟨g, 0, none⟩ u) := fun k hk _ => Below.heap_setCell _ _ _ _ (fun e => hg (by have e' : k = g := e; rw [← e']; exact hk))
theorem run_store_fn {X : World} {g : Nat} {u : Value} {t : TypeId} (h : X.heap[g]? = some (.cells #[u] t (0, 0))) (k : Nat) (c : Array Value) : Sem.run Tryz.prog (store ⟨g, 0, none⟩ (.func (.func k) #[] c)) X = .ok () (X.setCell ⟨g, 0, none⟩ (.func (.func k) #[] c)) := by
 obtain ⟨k1, k2⟩ := blk1f h
 exact (run_store Tryz.prog X ⟨g, 0, none⟩ _ .plain rfl).trans (by simp [k1, k2 0])
theorem set_one {X : World} {g : Nat} {a u : Value} {t : TypeId} (h : X.heap[g]? = some (.cells #[a] t (0, 0))) : (X.setCell ⟨g, 0, none⟩ u).heap[g]? = some (.cells #[u] t (0, 0)) := by
 have := heap_setCell_same X g 0 _ t u h
 simpa using this
theorem tc_num1 (x : Value) (w : World) : Sem.run Tryz.prog (Instr.typeAssert (.iface 340 x) 161 340 true) w = .ok (.tuple #[x, .bool true]) w := by kernel_rfl
theorem tc_idx1 (x : Value) (w : World) : Sem.run Tryz.prog (Instr.typeAssert (.iface 342 x) 161 340 true) w = .ok (.tuple #[.int .i64 0, .bool false]) w := by kernel_rfl
theorem tc_idx2 (x : Value) (w : World) : Sem.run Tryz.prog (Instr.typeAssert (.iface 342 x) 161 342 true) w = .ok (.tuple #[x, .bool true]) w := by kernel_rfl
theorem tc_read1 (x : Value) (w : World) : Sem.run Tryz.prog (Instr.typeAssert (.iface 331 x) 161 340 true) w = .ok (.tuple #[.int .i64 0, .bool false]) w := by kernel_rfl
theorem tc_read2 (x : Value) (w : World) : Sem.run Tryz.prog (Instr.typeAssert (.iface 331 x) 161 342 true) w = .ok (.tuple #[.agg #[.int .i64 0, .int .i64 0, .int .i64 0, .int .i64 0, .int .i64 0], .bool false]) w := by kernel_rfl
theorem tc_read3 (x : Value) (w : World) : Sem.run Tryz.prog (Instr.typeAssert (.iface 331 x) 161 331 true) w = .ok (.tuple #[x, .bool true]) w := by kernel_rfl
theorem tc_op1 (x : Value) (w : World) : Sem.run Tryz.prog (Instr.typeAssert (.iface 344 x) 161 340 true) w = .ok (.tuple #[.int .i64 0, .bool false]) w := by kernel_rfl
theorem tc_op2 (x : Value) (w : World) : Sem.run Tryz.prog (Instr.typeAssert (.iface 344 x) 161 342 true) w = .ok (.tuple #[.agg #[.int .i64 0, .int .i64 0, .int .i64 0, .int .i64 0, .int .i64 0], .bool false]) w := by kernel_rfl
theorem tc_op3 (x : Value) (w : World) : Sem.run Tryz.prog (Instr.typeAssert (.iface 344 x) 161 331 true) w = .ok (.tuple #[.agg #[.string ⟨#[]⟩, .slice none 0 0], .bool false]) w := by kernel_rfl
theorem tc_op4 (x : Value) (w : World) : Sem.run Tryz.prog (Instr.typeAssert (.iface 344 x) 161 344 true) w = .ok (.tuple #[x, .bool true]) w := by kernel_rfl
set_option linter.unusedVariables false in
set_option linter.unusedSimpArgs false in
set_option maxRecDepth 100000 in
set_option maxHeartbeats 8000000 in
theorem compile_any {B : Nat} {w1 : World} {v : Value} {ex : Ex} (h : NdR B w1 v ex) : ∀ (mo : Option Nat) (T : Int) (w : World),
  Calls Tryz.prog 170 #[.agg #[.map mo, .int .i64 T], v] w fun e w' => (∃ f, e = .returned f ∧ FnR (fun g => w.heap.size ≤ g ∧ g < w'.heap.size) B w1 mo T w' f ex) ∧ Ext w w' := by
 induction h with
 | num n =>
  intro mo T w
  have h1 := tc_num1 (.int .i64 n)
  go_enter Tryz.func170, Tryz.ntmps170
  go_wp2
  go_ret
  exact ⟨⟨_, rfl, .num n _ ⟨by simp, by simp⟩ (blk_at (by simp))⟩, ((Ext.refl w).alloc _).alloc _⟩
 | idx a b c d k hv =>
  intro mo T w
  have h1 := tc_idx1 (.agg #[.int .i64 a, .int .i64 b, .int .i64 c, .int .i64 d, .int .i64 k])
  have h2 := tc_idx2 (.agg #[.int .i64 a, .int .i64 b, .int .i64 c, .int .i64 d, .int .i64 k])
  go_enter Tryz.func170, Tryz.ntmps170
  go_wp2
  go_ret
  exact ⟨⟨_, rfl, .idx a b c d k hv _ ⟨by simp, by simp⟩ (blk_at (by simp))⟩, ((Ext.refl w).alloc _).alloc _⟩
 | read arr s subs hs =>
  intro mo T w
  have HS := Lib.hid hs
  obtain ⟨p, c, rfl⟩ := hs.form
  have h1 := tc_read1 (.agg #[.string arr, .slice p subs.length c])
  have h2 := tc_read2 (.agg #[.string arr, .slice p subs.length c])
  have h3 := tc_read3 (.agg #[.string arr, .slice p subs.length c])
  clear hs
  go_enter Tryz.func170, Tryz.ntmps170
  go_wp2
  go_ret
  exact ⟨⟨_, rfl, .read arr _ subs HS.out _ _ ⟨by simp, by simp <;> omega⟩ ⟨by simp, by simp⟩ (blk_old (blk_at rfl)) (blk_at (by simp))⟩, ((Ext.refl w).alloc _).alloc _⟩
 | op kind x y ex ey hk hx hy ihx ihy =>
  intro mo T w
  obtain ⟨tx, px, rfl⟩ := hx.iface
  obtain ⟨ty, py, rfl⟩ := hy.iface
  have h1 := tc_op1 (.agg #[.int .i64 kind, .iface tx px, .iface ty py])
  have h2 := tc_op2 (.agg #[.int .i64 kind, .iface tx px, .iface ty py])
  have h3 := tc_op3 (.agg #[.int .i64 kind, .iface tx px, .iface ty py])
  have h4 := tc_op4 (.agg #[.int .i64 kind, .iface tx px, .iface ty py])
  have IX := Lib.hid ihx; have IY := Lib.hid ihy; have HK := Lib.hid hk
  clear hx hy ihx ihy hk
  go_enter Tryz.func170, Tryz.ntmps170
  go_wp2
  clear h1 h2 h3 h4
  obtain ⟨W2, hW2⟩ : ∃ W2, ((w.alloc (.cells #[.map mo, .int .i64 T] 66)).alloc (.cells #[.int .i64 kind, .iface tx px, .iface ty py] 344)) = W2 := ⟨_, rfl⟩
  have E2 : Hid (Ext w W2) := Lib.hid (by rw [← hW2]; exact ((Ext.refl w).alloc _).alloc _)
  have B1 := Lib.hid (show W2.heap[w.heap.size]? = some (.cells #[.map mo, .int .i64 T] 66 (0, 0)) by rw [← hW2]; exact blk_old (blk_at rfl))
  have B2 := Lib.hid (show W2.heap[w.heap.size + 1]? = some (.cells #[.int .i64 kind, .iface tx px, .iface ty py] 344 (0, 0)) by rw [← hW2]; exact blk_at (by simp))
  try rw [hW2]
  clear hW2
  obtain ⟨y0, y1, -, -⟩ := blk2 B1.out
  obtain ⟨z0, z1, z2⟩ := blk3 B2.out
  refine wp_region_held_drew (S := fun X => X.cell? ⟨w.heap.size, 0, none⟩ = some (.map mo) ∧ X.cell? ⟨w.heap.size, 1, none⟩ = some (.int .i64 T) ∧ X.cell? ⟨w.heap.size + 1, 0, none⟩ = some (.int .i64 kind) ∧ X.cell? ⟨w.heap.size + 1, 1, none⟩ = some (.iface tx px) ∧ X.cell? ⟨w.heap.size + 1, 2, none⟩ = some (.iface ty py)) (by kernel_rfl) ⟨(Ext.refl W2).drew.keep y0, (Ext.refl W2).drew.keep y1, (Ext.refl W2).drew.keep z0, (Ext.refl W2).drew.keep z1, (Ext.refl W2).drew.keep z2⟩ (fun hHeld => ?_)
  refine wpAnyH_takeD (some 28) (i := 0) (v := ?vc0) rfl (by kernel_rfl) (by kernel_rfl) (by kernel_rfl) (by kernel_rfl) (fun _ _ _ h => h) (Or.inl ⟨by rfl, ?hyc0⟩) (by assumption) ?rc0
  case hyc0 => intro w hSw; (try dsimp only at hSw); go_simp; first | done | with_reducible rfl
  case' rc0 => try simp only [Act.put, List.setIfInBounds_toArray, List.set_cons_zero, List.set_cons_succ]
  refine wpAnyH_takeD (some 29) (i := 1) (v := ?vc1) rfl (by kernel_rfl) (by kernel_rfl) (by kernel_rfl) (by kernel_rfl) (fun _ _ _ h => h) (Or.inl ⟨by rfl, ?hyc1⟩) (by assumption) ?rc1
  case hyc1 => intro w hSw; (try dsimp only at hSw); go_simp; first | done | with_reducible rfl
  case' rc1 => try simp only [Act.put, List.setIfInBounds_toArray, List.set_cons_zero, List.set_cons_succ]
  refine wpAnyH_takeD (some 30) (i := 2) (v := ?vc2) rfl (by kernel_rfl) (by kernel_rfl) (by kernel_rfl) (by kernel_rfl) (fun _ _ _ h => h) (Or.inl ⟨by rfl, ?hyc2⟩) (by assumption) ?rc2
  case hyc2 => intro w hSw; (try dsimp only at hSw); go_simp; first | done | with_reducible rfl
  case' rc2 => try simp only [Act.put, List.setIfInBounds_toArray, List.set_cons_zero, List.set_cons_succ]
  refine wpAnyH_takeD (some 32) (i := 4) (v := ?vc3) rfl (by kernel_rfl) (by kernel_rfl) (by kernel_rfl) (by kernel_rfl) (fun _ _ _ h => h) (Or.inl ⟨by rfl, ?hyc3⟩) (by assumption) ?rc3
  case hyc3 => intro w hSw; (try dsimp only at hSw); go_simp; first | done | with_reducible rfl
  case' rc3 => try simp only [Act.put, List.setIfInBounds_toArray, List.set_cons_zero, List.set_cons_succ]
  refine wpAnyH_takeD (some 33) (i := 5) (v := ?vc4) rfl (by kernel_rfl) (by kernel_rfl) (by kernel_rfl) (by kernel_rfl) (fun _ _ _ h => h) (Or.inl ⟨by rfl, ?hyc4⟩) (by assumption) ?rc4
  case hyc4 => intro w hSw; (try dsimp only at hSw); go_simp; first | done | with_reducible rfl
  case' rc4 => try simp only [Act.put, List.setIfInBounds_toArray, List.set_cons_zero, List.set_cons_succ]
  refine wpAnyH_takeD (some 34) (i := 6) (v := ?vc5) rfl (by kernel_rfl) (by kernel_rfl) (by kernel_rfl) (by kernel_rfl) (fun _ _ _ h => h) (Or.inl ⟨by rfl, ?hyc5⟩) (by assumption) ?rc5
  case hyc5 => intro w hSw; (try dsimp only at hSw); go_simp; first | done | with_reducible rfl
  case' rc5 => try simp only [Act.put, List.setIfInBounds_toArray, List.set_cons_zero, List.set_cons_succ]
  refine wpAnyH_takeD (some 36) (i := 8) (v := ?vc6) rfl (by kernel_rfl) (by kernel_rfl) (by kernel_rfl) (by kernel_rfl) (fun _ _ _ h => h) (Or.inl ⟨by rfl, ?hyc6⟩) (by assumption) ?rc6
  case hyc6 => intro w hSw; (try dsimp only at hSw); go_simp; first | done | with_reducible rfl
  case' rc6 => try simp only [Act.put, List.setIfInBounds_toArray, List.set_cons_zero, List.set_cons_succ]
  refine wpAnyH_takeD (some 37) (i := 9) (v := ?vc7) rfl (by kernel_rfl) (by kernel_rfl) (by kernel_rfl) (by kernel_rfl) (fun _ _ _ h => h) (Or.inl ⟨by rfl, ?hyc7⟩) (by assumption) ?rc7
  case hyc7 => intro w hSw; (try dsimp only at hSw); go_simp; first | done | with_reducible rfl
  case' rc7 => try simp only [Act.put, List.setIfInBounds_toArray, List.set_cons_zero, List.set_cons_succ]
  have HKS : Hid (∀ X, Ext W2 X → X.cell? ⟨w.heap.size, 0, none⟩ = some (.map mo) ∧ X.cell? ⟨w.heap.size, 1, none⟩ = some (.int .i64 T) ∧ X.cell? ⟨w.heap.size + 1, 0, none⟩ = some (.int .i64 kind) ∧ X.cell? ⟨w.heap.size + 1, 1, none⟩ = some (.iface tx px) ∧ X.cell? ⟨w.heap.size + 1, 2, none⟩ = some (.iface ty py)) := Lib.hid (fun X h => ⟨h.keep y0, h.keep y1, h.keep z0, h.keep z1, h.keep z2⟩)
  clear y0 y1 z0 z1 z2 hHeld
  refine wpAnyH_inv (fun (listed : Array Bool) (a : Act) (X : World) => ∃ (c : Nat) (b1 b2 b3 : Bool) (v31 v35 v38 v9 v10 v11 : Value) (g9 g10 g11 s1 e1 s2 e2 : Nat), c ≤ 6 ∧ listed = LB c b1 b2 b3 ∧ a = { tmps := #[.agg #[.map mo, .int .i64 T], .iface 344 (.agg #[.int .i64 kind, .iface tx px, .iface ty py]), .pointer (some ⟨w.heap.size, 0, none⟩), undef, .nilFunc, undef, undef, undef, .pointer (some ⟨w.heap.size + 1, 0, none⟩), v9, v10, v11, .iface 344 (.agg #[.int .i64 kind, .iface tx px, .iface ty py]), .tuple #[.int .i64 0, .bool false], .bool false, .int .i64 0, undef, .tuple #[.agg #[.int .i64 0, .int .i64 0, .int .i64 0, .int .i64 0, .int .i64 0], .bool false], .bool false, .agg #[.int .i64 0, .int .i64 0, .int .i64 0, .int .i64 0, .int .i64 0], undef, .tuple #[.agg #[.string ⟨#[]⟩, .slice none 0 0], .bool false], .bool false, .agg #[.string ⟨#[]⟩, .slice none 0 0], undef, .tuple #[.agg #[.int .i64 kind, .iface tx px, .iface ty py], .bool true], .bool true, .agg #[.int .i64 kind, .iface tx px, .iface ty py], .agg #[.map mo, .int .i64 T], .pointer (some ⟨w.heap.size + 1, 1, none⟩), .iface tx px, v31, .agg #[.map mo, .int .i64 T], .pointer (some ⟨w.heap.size + 1, 2, none⟩), .iface ty py, v35, .pointer (some ⟨w.heap.size + 1, 0, none⟩), .int .i64 kind, v38, undef], defers := [] } ∧ CI W2 B w1 mo T ex ey kind c b1 b2 b3 v31 v35 v38 v9 v10 v11 g9 g10 g11 s1 e1 s2 e2 X) ?hs ?he _ _ _ _ ?hf ?hi
  case hf => exact of_decide_eq_true (by kernel_rfl)
  case hi => exact ⟨0, false, false, false, undef, undef, undef, undef, undef, undef, 0, 0, 0, 0, 0, 0, 0, by omega, by rfl, rfl, ⟨(Ext.refl W2).drew, fun h => absurd h (by omega), fun h => absurd h (by omega), fun h => absurd h (by omega), fun h => (by cases h), fun h => (by cases h), fun h => (by cases h), fun h => (by cases h), fun h => absurd h (by omega)⟩⟩
  case he =>
   rintro listed a X ⟨c, b1, b2, b3, v31, v35, v38, v9, v10, v11, g9, g10, g11, s1, e1, s2, e2, hc6, rfl, rfl, hci⟩ hr
   rcases (show c = 0 ∨ c = 1 ∨ c = 2 ∨ c = 3 ∨ c = 4 ∨ c = 5 ∨ c = 6 by omega) with rfl | rfl | rfl | rfl | rfl | rfl | rfl
   ·cases b1 <;> cases b2 <;> cases b3 <;> exact absurd hr (of_decide_eq_true (by kernel_rfl))
   ·cases b1 <;> cases b2 <;> cases b3 <;> exact absurd hr (of_decide_eq_true (by kernel_rfl))
   ·cases b1 <;> cases b2 <;> cases b3 <;> exact absurd hr (of_decide_eq_true (by kernel_rfl))
   ·cases b1 <;> cases b2 <;> cases b3 <;> exact absurd hr (of_decide_eq_true (by kernel_rfl))
   ·obtain ⟨rfl, rfl, rfl⟩ := hci.all (by omega)
    exact absurd hr (of_decide_eq_true (by kernel_rfl))
   ·obtain ⟨rfl, rfl, rfl⟩ := hci.all (by omega)
    exact absurd hr (of_decide_eq_true (by kernel_rfl))
   ·obtain ⟨rfl, rfl, rfl⟩ := hci.all (by omega)
    obtain ⟨rfl, q1, q2, -, -⟩ := hci.a1 rfl
    obtain ⟨rfl, r1, r2, -, -⟩ := hci.a2 rfl
    obtain ⟨rfl, t1, t2, -, -⟩ := hci.a3 rfl
    rw [if_pos (by omega)] at q2 r2 t2
    obtain ⟨f1, f2, f3⟩ := hci.x1 (by omega)
    obtain ⟨i1, i2, i3⟩ := hci.x2 (by omega)
    obtain rfl := hci.x3 (by omega)
    have hle : w.heap.size ≤ W2.heap.size := E2.out.size_le
    have hl1 := lt_of_block q2
    have hl2 := lt_of_block r2
    have hl3 := lt_of_block t2
    have HF : Hid (FnR (fun g => w.heap.size ≤ g ∧ g < X.heap.size) B w1 mo T X (.func (.func 233) #[] #[.pointer (some ⟨g11, 0, none⟩), .pointer (some ⟨g9, 0, none⟩), .pointer (some ⟨g10, 0, none⟩)]) (.mk kind 0 ([], 0) ⟨#[]⟩ [] [ex, ey])) :=
     Lib.hid (.op kind v31 v35 ex ey HK.out g11 g9 g10 ⟨by omega, hl3⟩ ⟨by omega, hl1⟩ ⟨by omega, hl2⟩ t2 q2 r2 (f1.mono (fun g h => ⟨by omega, by omega⟩)) (i1.mono (fun g h => ⟨by omega, by omega⟩)))
    have HX := Lib.hid (E2.out.trans hci.ext)
    clear hci hr q1 q2 r1 r2 t1 t2 f1 f2 f3 i1 i2 i3 hl1 hl2 hl3 hle
    dsimp only
    go_wp2
    go_ret
    exact ⟨⟨_, rfl, HF.out⟩, HX.out⟩
  case hs =>
   rintro listed a X i ⟨c, b1, b2, b3, v31, v35, v38, v9, v10, v11, g9, g10, g11, s1, e1, s2, e2, hc6, rfl, rfl, hci⟩ hr
   have hi17 : i < 17 := by
    obtain ⟨-, o, ho, -⟩ := mem_ready.1 hr
    exact (Array.getElem?_eq_some_iff.1 ho).1
   have hzx := hci.ext.size_le
   rcases (show i = 0 ∨ i = 1 ∨ i = 2 ∨ i = 3 ∨ i = 4 ∨ i = 5 ∨ i = 6 ∨ i = 7 ∨ i = 8 ∨ i = 9 ∨ i = 10 ∨ i = 11 ∨ i = 12 ∨ i = 13 ∨ i = 14 ∨ i = 15 ∨ i = 16 by omega) with rfl | rfl | rfl | rfl | rfl | rfl | rfl | rfl | rfl | rfl | rfl | rfl | rfl | rfl | rfl | rfl | rfl
   ·exact absurd (ready_after hr rfl).1 (by simp [LB])
   ·exact absurd (ready_after hr rfl).1 (by simp [LB])
   ·exact absurd (ready_after hr rfl).1 (by simp [LB])
   ·have h0 := (ready_after hr rfl).1
    obtain rfl : c = 0 := by simp [LB] at h0; omega
    clear hr h0
    refine wpOp_step rfl (fun K' hK => ?_)
    go_simp
    refine (IX.out mo T _).mono ?_
    rintro e X' ⟨⟨f, rfl, hf⟩, hE⟩
    have hz := hE.size_le
    have h := hci.ext' hE
    refine hK _ _ ⟨HKS.out _ h.ext, 1, b1, b2, b3, f, v35, v38, v9, v10, v11, g9, g10, g11, X.heap.size, X'.heap.size, s2, e2, by omega, rfl, rfl, ⟨h.ext, fun _ => ⟨hf, hzx, Nat.le_refl _⟩, fun h => absurd h (by omega), fun h => absurd h (by omega), fun hb => ?_, fun hb => ?_, fun hb => ?_, h.ne, fun h => absurd h (by omega)⟩⟩
    ·obtain ⟨a, b, d, -, -⟩ := hci.a1 hb
     exact ⟨a, b, by simpa using hE.blk d, fun _ => .inl (lt_of_block d), fun h => absurd h (by omega)⟩
    ·obtain ⟨a, b, d, -, -⟩ := hci.a2 hb
     exact ⟨a, b, by simpa using hE.blk d, fun _ => .inl (lt_of_block d), fun h => absurd h (by omega)⟩
    ·obtain ⟨a, b, d, -, -⟩ := hci.a3 hb
     exact ⟨a, b, by simpa using hE.blk d, fun _ => .inl (lt_of_block d), fun h => absurd h (by omega)⟩
   ·exact absurd (ready_after hr rfl).1 (by simp [LB])
   ·exact absurd (ready_after hr rfl).1 (by simp [LB])
   ·exact absurd (ready_after hr rfl).1 (by simp [LB])
   ·have h0 := (ready_after hr rfl).1
    have h1 := (ready_after hr rfl).2 { on := 3, ground := .chain } (by simp) (by rfl)
    obtain rfl : c = 1 := by simp [LB] at h0 h1; omega
    clear hr h0 h1
    refine wpOp_step rfl (fun K' hK => ?_)
    go_simp
    refine (IY.out mo T _).mono ?_
    rintro e X' ⟨⟨f, rfl, hf⟩, hE⟩
    have hz := hE.size_le
    have h := hci.ext' hE
    refine hK _ _ ⟨HKS.out _ h.ext, 2, b1, b2, b3, v31, f, v38, v9, v10, v11, g9, g10, g11, s1, e1, X.heap.size, X'.heap.size, by omega, rfl, rfl, ⟨h.ext, fun _ => h.x1 (by omega), fun _ => ⟨hf, hzx, Nat.le_refl _⟩, fun h => absurd h (by omega), fun hb => ?_, fun hb => ?_, fun hb => ?_, h.ne, fun h => absurd h (by omega)⟩⟩
    ·obtain ⟨a, b, d, e, -⟩ := hci.a1 hb
     exact ⟨a, b, by simpa using hE.blk d, fun _ => e (by omega), fun _ => .inl (lt_of_block d)⟩
    ·obtain ⟨a, b, d, e, -⟩ := hci.a2 hb
     exact ⟨a, b, by simpa using hE.blk d, fun _ => e (by omega), fun _ => .inl (lt_of_block d)⟩
    ·obtain ⟨a, b, d, e, -⟩ := hci.a3 hb
     exact ⟨a, b, by simpa using hE.blk d, fun _ => e (by omega), fun _ => .inl (lt_of_block d)⟩
   ·exact absurd (ready_after hr rfl).1 (by simp [LB])
   ·exact absurd (ready_after hr rfl).1 (by simp [LB])
   ·have h0 := (ready_after hr rfl).1
    have h1 := (ready_after hr rfl).2 { on := 7, ground := .chain } (by simp) (by rfl)
    obtain rfl : c = 2 := by simp [LB] at h0 h1; omega
    clear hr h0 h1
    refine wpOp_step rfl (fun K' hK => ?_)
    go_simp
    refine (operation_is kind _ HK.out).mono ?_
    rintro e X' ⟨rfl, rfl⟩
    refine hK _ _ ⟨HKS.out _ hci.ext, 3, b1, b2, b3, v31, v35, _, v9, v10, v11, g9, g10, g11, s1, e1, s2, e2, by omega, rfl, rfl, ⟨hci.ext, fun _ => hci.x1 (by omega), fun _ => hci.x2 (by omega), fun _ => rfl, fun hb => ?_, fun hb => ?_, fun hb => ?_, hci.ne, fun h => absurd h (by omega)⟩⟩
    ·obtain ⟨a, b, d, e, f⟩ := hci.a1 hb
     exact ⟨a, b, by simpa using d, fun _ => e (by omega), fun _ => f (by omega)⟩
    ·obtain ⟨a, b, d, e, f⟩ := hci.a2 hb
     exact ⟨a, b, by simpa using d, fun _ => e (by omega), fun _ => f (by omega)⟩
    ·obtain ⟨a, b, d, e, f⟩ := hci.a3 hb
     exact ⟨a, b, by simpa using d, fun _ => e (by omega), fun _ => f (by omega)⟩
   ·have h0 := (ready_after hr rfl).1
    obtain rfl : b1 = false := by simpa [LB] using h0
    have hc3 : c ≤ 3 := by
     rcases Nat.lt_or_ge c 4 with h | h
     ·omega
     ·have := (hci.all h).1; cases this
    clear hr h0
    refine wpOp_step rfl (fun K' hK => ?_)
    go_simp
    have hE := (Ext.refl X).alloc (.cells #[.nilFunc] 264)
    have h := hci.ext' hE
    refine hK _ _ ⟨HKS.out _ h.ext, c, true, b2, b3, v31, v35, v38, _, v10, v11, X.heap.size, g10, g11, s1, e1, s2, e2, hc6, rfl, rfl, ⟨h.ext, h.x1, h.x2, h.x3, fun _ => ⟨rfl, hzx, by rw [if_neg (by omega)]; exact blk_at rfl, fun hc => .inr (hci.x1 hc).2.2, fun hc => .inr (hci.x2 hc).2.2⟩, h.a2, h.a3, fun _ hb => ?_, fun hc => absurd hc (by omega)⟩⟩
    have := lt_of_block (hci.a2 hb).2.2.1
    omega
   ·have h0 := (ready_after hr rfl).1
    obtain rfl : b2 = false := by simpa [LB] using h0
    have hc3 : c ≤ 3 := by
     rcases Nat.lt_or_ge c 4 with h | h
     ·omega
     ·have := (hci.all h).2.1; cases this
    clear hr h0
    refine wpOp_step rfl (fun K' hK => ?_)
    go_simp
    have hE := (Ext.refl X).alloc (.cells #[.nilFunc] 264)
    have h := hci.ext' hE
    refine hK _ _ ⟨HKS.out _ h.ext, c, b1, true, b3, v31, v35, v38, v9, _, v11, g9, X.heap.size, g11, s1, e1, s2, e2, hc6, rfl, rfl, ⟨h.ext, h.x1, h.x2, h.x3, h.a1, fun _ => ⟨rfl, hzx, by rw [if_neg (by omega)]; exact blk_at rfl, fun hc => .inr (hci.x1 hc).2.2, fun hc => .inr (hci.x2 hc).2.2⟩, h.a3, fun hb _ => ?_, fun hc => absurd hc (by omega)⟩⟩
    have := lt_of_block (hci.a1 hb).2.2.1
    omega
   ·have h0 := (ready_after hr rfl).1
    obtain rfl : b3 = false := by simpa [LB] using h0
    have hc3 : c ≤ 3 := by
     rcases Nat.lt_or_ge c 4 with h | h
     ·omega
     ·have := (hci.all h).2.2; cases this
    clear hr h0
    refine wpOp_step rfl (fun K' hK => ?_)
    go_simp
    have hE := (Ext.refl X).alloc (.cells #[.nilFunc] 275)
    have h := hci.ext' hE
    exact hK _ _ ⟨HKS.out _ h.ext, c, b1, b2, true, v31, v35, v38, v9, v10, _, g9, g10, X.heap.size, s1, e1, s2, e2, hc6, rfl, rfl, ⟨h.ext, h.x1, h.x2, h.x3, h.a1, h.a2, fun _ => ⟨rfl, hzx, by rw [if_neg (by omega)]; exact blk_at rfl, fun hc => .inr (hci.x1 hc).2.2, fun hc => .inr (hci.x2 hc).2.2⟩, h.ne, fun hc => absurd hc (by omega)⟩⟩
   ·have h0 := (ready_after hr rfl).1
    have h1 := (ready_after hr rfl).2 { on := 10, ground := .chain } (by simp) (by rfl)
    have h2 := (ready_after hr rfl).2 { on := 11, ground := .data } (by simp) (by rfl)
    have h3 := (ready_after hr rfl).2 { on := 12, ground := .phase } (by simp) (by rfl)
    have h4 := (ready_after hr rfl).2 { on := 13, ground := .phase } (by simp) (by rfl)
    obtain rfl : c = 3 := by simp [LB] at h0 h1; omega
    obtain rfl : b1 = true := by simpa [LB] using h2
    obtain rfl : b2 = true := by simpa [LB] using h3
    obtain rfl : b3 = true := by simpa [LB] using h4
    clear hr h0 h1 h2 h3 h4
    obtain ⟨rfl, q1, q2, q3, q4⟩ := hci.a1 rfl
    obtain ⟨rfl, r1, r2, r3, r4⟩ := hci.a2 rfl
    obtain ⟨rfl, t1, t2, t3, t4⟩ := hci.a3 rfl
    rw [if_neg (by omega)] at q2 r2 t2
    obtain ⟨f1, f2, f3⟩ := hci.x1 (by omega)
    obtain ⟨i1, i2, i3⟩ := hci.x2 (by omega)
    obtain ⟨k1, k2⟩ := blk1f q2
    have k3 := k2 0
    have hn1 : g11 ≠ g9 := fun e => by rw [e, q2] at t2; simp at t2
    obtain ⟨kf, cf, rfl⟩ := f1.form
    have hst := run_store_fn q2 kf cf
    refine wpOp_step rfl (fun K' hK => ?_)
    go_simp
    have hE : Ext W2 (X.setCell ⟨g9, 0, none⟩ (.func (.func kf) #[] cf)) := hci.ext.setCell q1 _
    refine hK _ _ ⟨HKS.out _ hE, 4, true, true, true, _, v35, v38, _, _, _, g9, g10, g11, s1, e1, s2, e2, by omega, rfl, rfl, ⟨hE, fun _ => ⟨f1.keep (keepC_set (by have := q3 (by omega); omega) _), f2, by simpa using f3⟩, fun _ => ⟨i1.keep (keepC_set (by have := q4 (by omega); omega) _), i2, by simpa using i3⟩, fun _ => hci.x3 (by omega), fun _ => ⟨rfl, q1, by rw [if_pos (by omega)]; exact set_one q2, fun _ => q3 (by omega), fun _ => q4 (by omega)⟩, fun _ => ⟨rfl, r1, by rw [if_neg (by omega)]; exact blk_off r2 (fun e => hci.ne rfl rfl e.symm) _, fun _ => r3 (by omega), fun _ => r4 (by omega)⟩, fun _ => ⟨rfl, t1, by rw [if_neg (by omega)]; exact blk_off t2 hn1 _, fun _ => t3 (by omega), fun _ => t4 (by omega)⟩, hci.ne, fun _ => ⟨rfl, rfl, rfl⟩⟩⟩
   ·have h0 := (ready_after hr rfl).1
    have h1 := (ready_after hr rfl).2 { on := 14, ground := .chain } (by simp) (by rfl)
    obtain rfl : c = 4 := by simp [LB] at h0 h1; omega
    obtain ⟨rfl, rfl, rfl⟩ := hci.all (by omega)
    clear hr h0 h1
    obtain ⟨rfl, q1, q2, q3, q4⟩ := hci.a1 rfl
    obtain ⟨rfl, r1, r2, r3, r4⟩ := hci.a2 rfl
    obtain ⟨rfl, t1, t2, t3, t4⟩ := hci.a3 rfl
    rw [if_pos (by omega)] at q2
    rw [if_neg (by omega)] at r2 t2
    obtain ⟨f1, f2, f3⟩ := hci.x1 (by omega)
    obtain ⟨i1, i2, i3⟩ := hci.x2 (by omega)
    obtain ⟨k1, k2⟩ := blk1f r2
    have k3 := k2 0
    have hn1 : g11 ≠ g10 := fun e => by rw [e, r2] at t2; simp at t2
    obtain ⟨kf, cf, rfl⟩ := i1.form
    have hst := run_store_fn r2 kf cf
    refine wpOp_step rfl (fun K' hK => ?_)
    go_simp
    have hE : Ext W2 (X.setCell ⟨g10, 0, none⟩ (.func (.func kf) #[] cf)) := hci.ext.setCell r1 _
    refine hK _ _ ⟨HKS.out _ hE, 5, true, true, true, v31, _, v38, _, _, _, g9, g10, g11, s1, e1, s2, e2, by omega, rfl, rfl, ⟨hE, fun _ => ⟨f1.keep (keepC_set (by have := r3 (by omega); omega) _), f2, by simpa using f3⟩, fun _ => ⟨i1.keep (keepC_set (by have := r4 (by omega); omega) _), i2, by simpa using i3⟩, fun _ => hci.x3 (by omega), fun _ => ⟨rfl, q1, by rw [if_pos (by omega)]; exact blk_off q2 (hci.ne rfl rfl) _, fun _ => q3 (by omega), fun _ => q4 (by omega)⟩, fun _ => ⟨rfl, r1, by rw [if_pos (by omega)]; exact set_one r2, fun _ => r3 (by omega), fun _ => r4 (by omega)⟩, fun _ => ⟨rfl, t1, by rw [if_neg (by omega)]; exact blk_off t2 hn1 _, fun _ => t3 (by omega), fun _ => t4 (by omega)⟩, hci.ne, fun _ => ⟨rfl, rfl, rfl⟩⟩⟩
   ·have h0 := (ready_after hr rfl).1
    have h1 := (ready_after hr rfl).2 { on := 15, ground := .chain } (by simp) (by rfl)
    obtain rfl : c = 5 := by simp [LB] at h0 h1; omega
    obtain ⟨rfl, rfl, rfl⟩ := hci.all (by omega)
    clear hr h0 h1
    obtain ⟨rfl, q1, q2, q3, q4⟩ := hci.a1 rfl
    obtain ⟨rfl, r1, r2, r3, r4⟩ := hci.a2 rfl
    obtain ⟨rfl, t1, t2, t3, t4⟩ := hci.a3 rfl
    rw [if_pos (by omega)] at q2 r2
    rw [if_neg (by omega)] at t2
    obtain ⟨f1, f2, f3⟩ := hci.x1 (by omega)
    obtain ⟨i1, i2, i3⟩ := hci.x2 (by omega)
    obtain ⟨k1, k2⟩ := blk1f t2
    have k3 := k2 0
    have hn1 : g9 ≠ g11 := fun e => by rw [← e, q2] at t2; simp at t2
    have hn2 : g10 ≠ g11 := fun e => by rw [← e, r2] at t2; simp at t2
    obtain rfl := hci.x3 (by omega)
    have hst := run_store_fn t2 (opF kind) #[]
    refine wpOp_step rfl (fun K' hK => ?_)
    go_simp
    have hE : Ext W2 (X.setCell ⟨g11, 0, none⟩ (.func (.func (opF kind)) #[] #[])) := hci.ext.setCell t1 _
    refine hK _ _ ⟨HKS.out _ hE, 6, true, true, true, v31, v35, _, _, _, _, g9, g10, g11, s1, e1, s2, e2, by omega, rfl, rfl, ⟨hE, fun _ => ⟨f1.keep (keepC_set (by have := t3 (by omega); omega) _), f2, by simpa using f3⟩, fun _ => ⟨i1.keep (keepC_set (by have := t4 (by omega); omega) _), i2, by simpa using i3⟩, fun _ => rfl, fun _ => ⟨rfl, q1, by rw [if_pos (by omega)]; exact blk_off q2 hn1 _, fun _ => q3 (by omega), fun _ => q4 (by omega)⟩, fun _ => ⟨rfl, r1, by rw [if_pos (by omega)]; exact blk_off r2 hn2 _, fun _ => r3 (by omega), fun _ => r4 (by omega)⟩, fun _ => ⟨rfl, t1, by rw [if_pos (by omega)]; exact set_one t2, fun _ => t3 (by omega), fun _ => t4 (by omega)⟩, hci.ne, fun _ => ⟨rfl, rfl, rfl⟩⟩⟩
end Go.Proofs.YtklehkkclojccaaGreat
