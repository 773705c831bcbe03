/- The texts V2, joined. No statement is proved here. -/
import Derived.Test.YtggpjapmhakklaaK03
import Derived.Test.YtggpjapmhakklaaK37
import Derived.Test.YtggpjapmhakklaaK47
import Derived.Test.YtggpjapmhakklaaK38
/- The accesses that a statement reads, as the program's iterator yields them. No statement is proved here. -/
namespace Go.Proofs.Ytggpjapmhakklaa
open Go.RowKit
attribute [local go_sem] Oper.semAt_some

/-- An element as it lies in a node, and what it says. -/
abbrev El := Value × Acc
inductive NdL : Value → List El → Prop
  | num (n : Int) : NdL (.iface 160 (.int .i64 n)) []
  | idx (a b c d k : Int) : NdL (.iface 163 (.agg #[.int .i64 a, .int .i64 b, .int .i64 c, .int .i64 d, .int .i64 k])) []
  | read (arr : ByteArray) (p : Option Addr) (n c : Nat) (subs : List Aff) : NdL (.iface 130 (.agg #[.string arr, .slice p n c])) [(.agg #[.string arr, .slice p n c], (arr, subs))]
  | op (kind : Int) (tx ty : TypeId) (x y : Value) (l1 l2 : List El) (hx : NdL (.iface tx x) l1) (hy : NdL (.iface ty y) l2) : NdL (.iface 165 (.agg #[.int .i64 kind, .iface tx x, .iface ty y])) (l1 ++ l2)
def ElR (B : Nat) (w : World) (x : El) : Prop := ∃ p n c, x.1 = .agg #[.string x.2.1, .slice p n c] ∧ LinsOwn B w (.slice p n c) x.2.2
theorem NdR.list {B : Nat} {w : World} {v : Value} {e : Ex} (h : NdR B w v e) : ∀ {L : Nat} {d : Int}, shapeB L e d = true → ∃ xs, NdL v xs ∧ xs.map (·.2) = readsE L e ∧ ∀ x ∈ xs, ElR B w x := by
  induction h with
  | num n => intro L d hs; exact ⟨[], .num n, by cases L <;> simp [readsE, Ex.kind, Ex.kids], by simp⟩
  | idx a b c d' k h => intro L d hs; exact ⟨[], .idx a b c d' k, by cases L <;> simp [readsE, Ex.kind, Ex.kids], by simp⟩
  | read arr s subs h =>
    intro L d hs
    obtain ⟨p, c, rfl⟩ := h.form
    cases L with
    | zero => simp [shapeB] at hs
    | succ L => exact ⟨_, .read arr p subs.length c subs, by simp [readsE, Ex.kind, Ex.kids, Ex.arr, Ex.subs], fun x hx => by simp at hx; subst hx; exact ⟨p, _, c, rfl, h⟩⟩
  | op kind x y ex ey hk hx hy ihx ihy =>
    intro L d hs
    cases L with
    | zero => simp [shapeB] at hs
    | succ L =>
      obtain ⟨l1, h1, e1, r1⟩ := ihx (shape_kids hs ex (by simp [Ex.kids]))
      obtain ⟨l2, h2, e2, r2⟩ := ihy (shape_kids hs ey (by simp [Ex.kids]))
      obtain ⟨tx, px, rfl⟩ := hx.iface
      obtain ⟨ty, py, rfl⟩ := hy.iface
      refine ⟨l1 ++ l2, .op kind tx ty px py l1 l2 h1 h2, ?_, fun x hx => ?_⟩
      · have : kind ≠ 3 := by omega
        simp [readsE, Ex.kind, Ex.kids, this, e1, e2]
      · rcases List.mem_append.1 hx with h | h
        · exact r1 x h
        · exact r2 x h


theorem tr_num (x : Value) (w : World) : Sem.run Try.prog (Instr.typeAssert (.iface 160 x) 86 130 true) w = .ok (.tuple #[.agg #[.string ⟨#[]⟩, .slice none 0 0], .bool false]) w := by kernel_rfl
theorem tr_idx (x : Value) (w : World) : Sem.run Try.prog (Instr.typeAssert (.iface 163 x) 86 130 true) w = .ok (.tuple #[.agg #[.string ⟨#[]⟩, .slice none 0 0], .bool false]) w := by kernel_rfl
theorem tr_op (x : Value) (w : World) : Sem.run Try.prog (Instr.typeAssert (.iface 165 x) 86 130 true) w = .ok (.tuple #[.agg #[.string ⟨#[]⟩, .slice none 0 0], .bool false]) w := by kernel_rfl
theorem tr_read (x : Value) (w : World) : Sem.run Try.prog (Instr.typeAssert (.iface 130 x) 86 130 true) w = .ok (.tuple #[x, .bool true]) w := by kernel_rfl

theorem rd1_num (n : Int) (u : Value) (w : World) : Calls Try.prog 81 #[.iface 160 (.int .i64 n), u] w fun e w' => e = .returned (.bool true) ∧ w' = w.alloc (.cells #[.string ⟨#[]⟩, .slice none 0 0] 130) := by
  go_enter Try.func81, Try.ntmps81
  have h := tr_num (.int .i64 n)
  go_wp2
  go_ret
  exact ⟨rfl, rfl⟩
theorem rd1_idx (a b c d k : Int) (u : Value) (w : World) : Calls Try.prog 81 #[.iface 163 (.agg #[.int .i64 a, .int .i64 b, .int .i64 c, .int .i64 d, .int .i64 k]), u] w fun e w' => e = .returned (.bool true) ∧ w' = w.alloc (.cells #[.string ⟨#[]⟩, .slice none 0 0] 130) := by
  go_enter Try.func81, Try.ntmps81
  have h := tr_idx (.agg #[.int .i64 a, .int .i64 b, .int .i64 c, .int .i64 d, .int .i64 k])
  go_wp2
  go_ret
  exact ⟨rfl, rfl⟩
theorem rd1_op (k : Int) (tx ty : TypeId) (x y u : Value) (w : World) : Calls Try.prog 81 #[.iface 165 (.agg #[.int .i64 k, .iface tx x, .iface ty y]), u] w fun e w' => e = .returned (.bool true) ∧ w' = w.alloc (.cells #[.string ⟨#[]⟩, .slice none 0 0] 130) := by
  go_enter Try.func81, Try.ntmps81
  have h := tr_op (.agg #[.int .i64 k, .iface tx x, .iface ty y])
  go_wp2
  go_ret
  exact ⟨rfl, rfl⟩

set_option linter.unusedVariables false in
set_option maxHeartbeats 1000000 in
theorem rd1_read (l YB m m' : Nat) (arr : ByteArray) (p : Option Addr) (n c : Nat) (W : World) (R : Ending → World → Prop) (hYB : W.heap[YB]? = some (.cells #[.func (.yield l) #[] #[]] 127 (0, 0)))
    (hY : YieldAt Fence.wide m' Try.prog l #[.agg #[.string arr, .slice p n c]] (W.alloc (.cells #[.string arr, .slice p n c] 130)) R) (hb : ∀ e V, R e V → ∃ b, e = .returned (.bool b)) :
    CallsIn Fence.wide m Try.prog 81 #[.iface 130 (.agg #[.string arr, .slice p n c]), .pointer (some ⟨YB, 0, none⟩)] W R := by
  obtain ⟨fn, tmps, assign, body, hy, hR⟩ := hY
  have hc := box_cell (blk_old (o := .cells #[.string arr, .slice p n c] 130) hYB)
  have h := tr_read (.agg #[.string arr, .slice p n c])
  have HB := Lib.hid hb
  clear hb hYB
  refine callsIn_of_wp Try.func81 rfl trivial ?_ rfl
  simp only [Try.ntmps81, List.size_toArray, List.length_cons, List.length_nil, Nat.reduceAdd, Nat.reduceSub, Array.replicate_succ, Array.replicate_zero, List.push_toArray, List.append_toArray, List.nil_append, List.cons_append]
  have hdd : ∀ k : Nat, (Fence.wide.depth.isSome = true → 1 ≤ k) := fun k h => by cases h
  gi_wp2_with (refine ⟨hdd _, ?_⟩; refine (round_wide hR).mono ?_; clear hR; rintro e V2 hr; obtain ⟨bb, rfl⟩ := HB.out _ _ hr)
  exact hr

/-- What the consumer of the elements says of a round. -/
def YdR (l m' : Nat) (J Jx : List El → List Nat → World → Prop) (Z : Nat → Prop) (tot : List El) : Prop := ∀ pre x own1 V, J pre own1 V → (pre ++ [x]) <+: tot → x ∈ tot → (∀ b ∈ own1, b < V.heap.size ∧ ¬ Z b) → YieldAt Fence.wide m' Try.prog l #[x.1] V fun e V' => ∃ own', Grew own1 own' V V' ∧ ((e = .returned (.bool true) ∧ J (pre ++ [x]) own' V') ∨ (e = .returned (.bool false) ∧ Jx (pre ++ [x]) own' V'))
theorem own_next {Z : Nat → Prop} {YB : Nat} {own own' : List Nat} {W W' : World} (h : ∀ b ∈ own, b < W.heap.size ∧ ¬ Z b ∧ b ≠ YB) (hg : Grew own own' W W') (hZ : ∀ b, Z b → b < YB) (hY : YB < W.heap.size) : ∀ b ∈ own', b < W'.heap.size ∧ ¬ Z b ∧ b ≠ YB := fun b hb => by
  obtain ⟨h1, h2⟩ := hg.2 b hb
  rcases h1 with h1 | h1
  · exact ⟨h2, (h b h1).2⟩
  · exact ⟨h2, fun hz => by have := hZ b hz; omega, by omega⟩

set_option linter.unusedVariables false in
set_option maxRecDepth 100000 in
set_option maxHeartbeats 2000000 in
theorem visitReads (base l YB m' : Nat) (J Jx : List El → List Nat → World → Prop) (tot : List El) (Z : Nat → Prop) (hJ : StableB base J) (hJx : StableB base Jx) (hY : YdR l m' J Jx Z tot) (hZ : ∀ b, Z b → b < YB) {v : Value} {xs : List El} (hv : NdL v xs) :
    ∀ (pre post : List El) (own : List Nat) (W : World), tot = pre ++ xs ++ post → J pre own W → (∀ b ∈ own, b < W.heap.size ∧ ¬ Z b ∧ b ≠ YB) → W.heap[YB]? = some (.cells #[.func (.yield l) #[] #[]] 127 (0, 0)) →
      Calls Try.prog 80 #[v, .func (.func 81) #[] #[.pointer (some ⟨YB, 0, none⟩)]] W fun e W' => ∃ own', Grew own own' W W' ∧ ((e = .returned (.bool true) ∧ J (pre ++ xs) own' W') ∨ (e = .returned (.bool false) ∧ ∃ q, q <+: tot ∧ Jx q own' W')) := by
  induction hv with
  | num n =>
    intro pre post own W htot h0 hown hYB
    have H0 := Lib.hid h0; have HO := Lib.hid hown
    clear h0 hown hYB htot hY hZ hJx
    go_enter Try.func80, Try.ntmps80
    go_wp2_with (fail)
    refine (rd1_num n _ W).mono ?_
    rintro e w1 ⟨rfl, rfl⟩
    have hta := ta_num (.int .i64 n)
    go_wp2
    go_ret
    have hg1 := Grew.alloc own W (.cells #[.string ⟨#[]⟩, .slice none 0 0] 130) (fun b hb => (HO.out b hb).1)
    have hg2 := hg1.trans (Grew.alloc own _ (.cells #[.int .i64 0, .nilIface, .nilIface] 165) (fun b hb => (hg1.2 b hb).2))
    exact ⟨own, hg2, .inl ⟨rfl, by rw [List.append_nil]; exact hJ _ _ _ _ H0.out ((Lv.alloc (fun _ => False) W _).trans (Lv.alloc (fun _ => False) _ _) (fun _ _ h => h.elim) (fun _ _ h => h.elim))⟩⟩
  | idx a b c d k =>
    intro pre post own W htot h0 hown hYB
    have H0 := Lib.hid h0; have HO := Lib.hid hown
    clear h0 hown hYB htot hY hZ hJx
    go_enter Try.func80, Try.ntmps80
    go_wp2_with (fail)
    refine (rd1_idx a b c d k _ W).mono ?_
    rintro e w1 ⟨rfl, rfl⟩
    have hta := ta_idx (.agg #[.int .i64 a, .int .i64 b, .int .i64 c, .int .i64 d, .int .i64 k])
    go_wp2
    go_ret
    have hg1 := Grew.alloc own W (.cells #[.string ⟨#[]⟩, .slice none 0 0] 130) (fun b hb => (HO.out b hb).1)
    have hg2 := hg1.trans (Grew.alloc own _ (.cells #[.int .i64 0, .nilIface, .nilIface] 165) (fun b hb => (hg1.2 b hb).2))
    exact ⟨own, hg2, .inl ⟨rfl, by rw [List.append_nil]; exact hJ _ _ _ _ H0.out ((Lv.alloc (fun _ => False) W _).trans (Lv.alloc (fun _ => False) _ _) (fun _ _ h => h.elim) (fun _ _ h => h.elim))⟩⟩
  | read arr p n c subs =>
    intro pre post own W htot h0 hown hYB
    have hlv : Lv (fun _ => False) W (W.alloc (.cells #[.string arr, .slice p n c] 130)) := Lv.alloc _ W _
    have hy := hY pre (.agg #[.string arr, .slice p n c], (arr, subs)) own _ (hJ _ _ _ _ h0 (hlv.mono (fun _ _ h => h.elim))) ⟨post, htot.symm⟩ (by rw [htot]; simp) (fun b hb => ⟨by have := (hown b hb).1; simp; omega, (hown b hb).2.1⟩)
    have hg0 := Grew.alloc own W (.cells #[.string arr, .slice p n c] 130) (fun b hb => (hown b hb).1)
    have HY := Lib.hid hy; have HG0 := Lib.hid hg0; have HYB := Lib.hid hYB; have HTOT := Lib.hid htot; have HJ := Lib.hid hJ; have HJX := Lib.hid hJx
    clear hy hg0 hYB htot h0 hown hlv hY hZ hJ hJx
    have hta := ta_read (.agg #[.string arr, .slice p n c])
    go_enter Try.func80, Try.ntmps80
    go_wp2_with (fail)
    refine ((callsIn_wide (n := 6)).1 (rd1_read l YB _ m' arr p n c W _ HYB.out HY.out (by rintro e V ⟨o, -, (⟨rfl, -⟩ | ⟨rfl, -⟩)⟩ <;> exact ⟨_, rfl⟩))).mono ?_
    rintro e w1 ⟨own', hg, (⟨rfl, hj⟩ | ⟨rfl, hj⟩)⟩
    · have HG := Lib.hid (HG0.out.trans hg); have HJ1 := Lib.hid hj
      clear hg hj
      go_wp2
      go_ret
      have hg3 := HG.out.trans (Grew.alloc own' w1 (.cells #[.int .i64 0, .nilIface, .nilIface] 165) (fun b hb => (HG.out.2 b hb).2))
      exact ⟨own', hg3, .inl ⟨rfl, HJ.out _ _ _ _ HJ1.out ((Lv.alloc (fun _ => False) w1 _).mono (fun _ _ h => h.elim))⟩⟩
    · have HG := Lib.hid (HG0.out.trans hg); have HJ1 := Lib.hid hj
      clear hg hj
      go_wp2
      go_ret
      exact ⟨own', HG.out, .inr ⟨rfl, _, ⟨post, HTOT.out.symm⟩, HJ1.out⟩⟩
  | op kind tx ty x y l1 l2 hx hy ihx ihy =>
    intro pre post own W htot h0 hown hYB
    have hlY := lt_of_block hYB
    have hta := ta_op (.agg #[.int .i64 kind, .iface tx x, .iface ty y])
    obtain ⟨W1, hW1⟩ : ∃ W1, W.alloc (.cells #[.string ⟨#[]⟩, .slice none 0 0] 130) = W1 := ⟨_, rfl⟩
    obtain ⟨W2, hW2⟩ : ∃ W2, W1.alloc (.cells #[.int .i64 kind, .iface tx x, .iface ty y] 165) = W2 := ⟨_, rfl⟩
    have hs1 : W1.heap.size = W.heap.size + 1 := by rw [← hW1]; simp
    have hg1 : Grew own own W W1 := by rw [← hW1]; exact Grew.alloc own W _ (fun b hb => (hown b hb).1)
    have hg2 : Grew own own W W2 := hg1.trans (by rw [← hW2]; exact Grew.alloc own W1 _ (fun b hb => (hg1.2 b hb).2))
    have hv2 : Lv (fun _ => False) W W2 := by rw [← hW2, ← hW1]; exact (Lv.alloc (fun _ => False) W _).trans (Lv.alloc (fun _ => False) _ _) (fun _ _ h => h) (fun _ _ h => h)
    have HOB : Hid (W2.heap[W.heap.size + 1]? = some (.cells #[.int .i64 kind, .iface tx x, .iface ty y] 165 (0, 0))) := Lib.hid (by rw [← hW2, ← hs1]; exact blk_at rfl)
    obtain ⟨o0, o1, o2⟩ := blk3 HOB.out
    have hown2 := own_next hown hg2 hZ hlY
    have HX := Lib.hid (ihx pre (l2 ++ post) own W2 (by rw [htot]; simp) (hJ _ _ _ _ h0 (hv2.mono (fun _ _ h => h.elim))) hown2 (hv2.heap hYB (fun h => h)))
    have HY2 := Lib.hid (hv2.heap hYB (fun h => h))
    have HG2 := Lib.hid hg2; have HO2 := Lib.hid hown2; have HTOT := Lib.hid htot; have HOW := Lib.hid hown; have HIY := Lib.hid ihy; have HZ := Lib.hid hZ
    have hl2 : YB < W2.heap.size := lt_of_block HY2.out
    clear hg1 hg2 hv2 hown2 ihx ihy h0 hYB htot hY hZ hJ hJx hown
    go_enter Try.func80, Try.ntmps80
    go_wp2_with (fail)
    refine (rd1_op kind tx ty x y _ W).mono ?_
    rintro e w1 ⟨rfl, rfl⟩
    rw [hW1]
    go_wp2_with (fail)
    refine HX.out.mono ?_
    rintro e W3 ⟨own2, hg3, (⟨rfl, hj⟩ | ⟨rfl, q, hq, hj⟩)⟩
    · have HOB3 := Lib.hid (hg3.1.heap HOB.out (fun h => by have := (HOW.out _ h).1; omega))
      have HYB3 := Lib.hid (hg3.1.heap HY2.out (fun h => (HOW.out _ h).2.2 rfl))
      have HIY3 := Lib.hid (HIY.out (pre ++ l1) post own2 W3 (by rw [HTOT.out]; simp) hj (own_next HO2.out hg3 HZ.out hl2) HYB3.out)
      have HG3 := Lib.hid (HG2.out.trans hg3)
      clear hg3 hj o0 o1 o2
      obtain ⟨o0, o1, o2⟩ := blk3 HOB3.out
      go_wp2_with (fail)
      refine HIY3.out.mono ?_
      rintro e W4 ⟨own3, hg4, (⟨rfl, hj⟩ | ⟨rfl, q, hq, hj⟩)⟩
      · have HG4 := Lib.hid (HG3.out.trans hg4); have HJ4 := Lib.hid hj
        clear hg4 hj o0 o1 o2
        go_wp2
        go_ret
        exact ⟨own3, HG4.out, .inl ⟨rfl, by rw [← List.append_assoc]; exact HJ4.out⟩⟩
      · have HG4 := Lib.hid (HG3.out.trans hg4); have HJ4 := Lib.hid hj
        clear hg4 hj o0 o1 o2
        go_wp2
        go_ret
        exact ⟨own3, HG4.out, .inr ⟨rfl, q, hq, HJ4.out⟩⟩
    · have HG3 := Lib.hid (HG2.out.trans hg3); have HJ4 := Lib.hid hj
      clear hg3 hj o0 o1 o2
      go_wp2
      go_ret
      exact ⟨own2, HG3.out, .inr ⟨rfl, q, hq, HJ4.out⟩⟩

theorem reads_call (a : ByteArray) (p : Option Addr) (n c : Nat) (v : Value) (w : World) (hv : ∃ t x, v = .iface t x) : Calls Try.prog 50 #[.agg #[.string a, .slice p n c, v]] w fun e w' =>
    e = .returned (.func (.func 79) #[] #[.pointer (some ⟨w.heap.size, 0, none⟩)]) ∧ w' = w.alloc (.cells #[.string a, .slice p n c, v] 88) := by
  obtain ⟨t, x, rfl⟩ := hv
  go_enter Try.func50, Try.ntmps50
  go_wp2
  go_ret
  exact ⟨rfl, rfl⟩

theorem NdL.iface {v : Value} {xs : List El} (h : NdL v xs) : ∃ t p, v = .iface t p := by
  cases h <;> exact ⟨_, _, rfl⟩
set_option linter.unusedVariables false in
set_option maxHeartbeats 1000000 in
theorem reads_seqB (base m m' : Nat) (a0 s0 v : Value) (xs : List El) (SB : Nat) (Z : Nat → Prop) (w : World) (hv : NdL v xs) (hZ : ∀ b, Z b → b < w.heap.size) (hB : w.heap[SB]? = some (.cells #[a0, s0, v] 88 (0, 0))) :
    SeqB base Fence.wide m m' Try.prog 79 #[.pointer (some ⟨SB, 0, none⟩)] (fun x : El => #[x.1]) (fun x _ => x ∈ xs) (fun _ => True) (fun _ => False) Z xs w := by
  intro l J Jx own W hvW hJ hJx hown hY h0
  have hBW := hvW.heap hB (fun h => h)
  have hsz := hvW.size
  obtain ⟨t, x, rfl⟩ := hv.iface
  refine callsIn_wide.2 ?_
  show Calls Try.prog 79 #[.func (.yield l) #[] #[], .pointer (some ⟨SB, 0, none⟩)] W _
  obtain ⟨V, hV⟩ : ∃ V, W.alloc (.cells #[.func (.yield l) #[] #[]] 127) = V := ⟨_, rfl⟩
  have hg0 : Grew own own W V := by rw [← hV]; exact Grew.alloc own W _ (fun b hb => (hown b hb).1)
  have hvV : Lv (fun _ => False) W V := by rw [← hV]; exact Lv.alloc _ W _
  obtain ⟨c0, c1, c2⟩ := blk3 (hvV.heap hBW (fun h => h))
  have hYV : V.heap[W.heap.size]? = some (.cells #[.func (.yield l) #[] #[]] 127 (0, 0)) := by rw [← hV]; exact blk_at rfl
  have HR := Lib.hid (visitReads base l W.heap.size m' J Jx xs Z hJ hJx hY (fun b h => by have := hZ b h; omega) hv [] [] own V (by simp) (hJ _ _ _ _ h0 (hvV.mono (fun _ _ h => h.elim))) (fun b hb => ⟨(hg0.2 b hb).2, (hown b hb).2, by have := (hown b hb).1; omega⟩) hYV)
  have HG0 := Lib.hid hg0
  clear hg0 hvV hYV hY hJ hJx h0 hown hZ hB hBW hvW
  go_enter Try.func79, Try.ntmps79
  go_wp2_with (fail)
  try rw [hV]
  refine HR.out.mono ?_
  rintro e W' ⟨own', hg, (⟨rfl, hj⟩ | ⟨rfl, q, hq, hj⟩)⟩
  · have hg2 := HG0.out.trans hg
    go_wp2
    refine bodyPost_end (results_none rfl _ _ _) rfl ?_
    exact ⟨⟨_, rfl⟩, own', hg2.2, hg2.1.mono (fun _ _ h => .inl h), trivial, .inl hj⟩
  · have hg2 := HG0.out.trans hg
    go_wp2
    refine bodyPost_end (results_none rfl _ _ _) rfl ?_
    exact ⟨⟨_, rfl⟩, own', hg2.2, hg2.1.mono (fun _ _ h => .inl h), trivial, .inr ⟨q, hq, hj⟩⟩
end Go.Proofs.Ytggpjapmhakklaa
