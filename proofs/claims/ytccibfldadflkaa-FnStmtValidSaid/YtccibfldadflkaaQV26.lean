/- The texts S16, joined. No statement is proved here. -/
import Derived.Test.YtccibfldadflkaaQV25
import Derived.Test.YtccibfldadflkaaQV18
/- The program's nodeOf at every level; the count of nodes by a visit. No statement is proved here. -/
namespace Go.Proofs.Ytccibfldadflkaa
open Go.RowKit

set_option maxRecDepth 100000 in
set_option maxHeartbeats 1000000 in
theorem nodeOf_all (dd : Int) : ∀ (L : Nat), L ≤ 5 → NdOf dd L
  | 0, _ => by
    intro e u s v w hu ha hs hv
    obtain ⟨pu, cu, rfl, hmu, -⟩ := id hu
    obtain ⟨ps, cs, rfl, hms⟩ := hs.form
    obtain ⟨pv, cv, rfl, hmv⟩ := hv.form
    clear hu hs hv
    have HR : Hid (shapeB 0 e dd = false) := Lib.hid rfl
    rw [HR.out]
    go_enter Try.func89, Try.ntmps89
    go_wp2
    exact bodyPost_ret (v := .tuple #[.nilIface, .bool false]) (by simp [results, Try.results89, go_sem]) rfl ⟨⟨_, rfl, .inl rfl, fun h => by cases h⟩, (Ext.refl w).alloc _⟩
  | L + 1, hL => by
    intro e u s v w hu ha hs hv
    obtain ⟨kind, num, ⟨xs, k⟩, arr, subs, kids⟩ := e
    simp only [Ex.kind, Ex.num, Ex.ix, Ex.arr, Ex.subs, Ex.kids] at *
    rw [show ((L + 1 : Nat) : Int) = (L : Int) + 1 from by omega]
    obtain ⟨pv, cv, rfl, hmv⟩ := hv.form
    by_cases h1 : kind = 1
    · subst h1
      refine (nodeNum_any L num k dd u s _ xs arr subs kids.length w hu hs ⟨_, _, rfl⟩ hmv).mono ?_
      rintro r w' ⟨rfl, hE⟩
      refine ⟨⟨_, by rw [shape1], .inr ⟨_, _, rfl⟩, fun h => ?_⟩, hE⟩
      rw [shape1] at h
      simp only [Bool.and_eq_true] at h
      obtain ⟨-, hx, rfl, rfl, h0⟩ := bareB_parts h.2.2
      obtain rfl := List.eq_nil_of_length_eq_zero h0
      rw [hx]
      exact .num num
    by_cases h2 : kind = 2
    · subst h2
      refine (nodeIdx_any L num k dd u s _ xs arr subs kids.length w hu hs ⟨_, _, rfl⟩ hmv).mono ?_
      rintro r w' ⟨⟨a, b, c, d, m, rfl, hval⟩, hE⟩
      refine ⟨⟨_, by rw [shape2], .inr ⟨_, _, rfl⟩, fun h => ?_⟩, hE⟩
      rw [shape2] at h
      simp only [Bool.and_eq_true, boundB] at h
      obtain ⟨rfl, -, rfl, rfl, h0⟩ := bareB_parts h.2
      obtain rfl := List.eq_nil_of_length_eq_zero h0
      obtain ⟨rfl, rfl⟩ := hval h.1.1
      exact .idx a b c d m h.1.1
    by_cases h3 : kind = 3
    · subst h3
      refine (nodeRead_any L num k dd u s _ xs arr subs kids.length w hu ha hs ⟨_, _, rfl⟩ hmv).mono ?_
      rintro r w' ⟨⟨a', p', n', c', rfl, hval⟩, hE⟩
      refine ⟨⟨_, by rw [shape3], .inr ⟨_, _, rfl⟩, fun h => ?_⟩, hE⟩
      rw [shape3] at h
      simp only [Bool.and_eq_true] at h
      obtain ⟨rfl, hx, -, -, h0⟩ := bareB_parts h.2
      obtain rfl := List.eq_nil_of_length_eq_zero h0
      obtain ⟨rfl, ho⟩ := hval h.1
      rw [hx]
      exact .read _ _ _ ho
    by_cases h4 : kind = 4 ∨ kind = 5 ∨ kind = 6
    · exact nodeOp_any L kind num k dd h4 (by omega) (nodeOf_all dd L (by omega)) u s _ xs arr subs kids w hu ha hs hv
    · have HR := Lib.hid (shapeBad L kind num (xs, k) arr subs kids dd (by omega))
      rw [HR.out]
      obtain ⟨pu, cu, rfl, hmu, -⟩ := id hu
      obtain ⟨ps, cs, rfl, hms⟩ := hs.form
      have hd : (((L : Int) + 1) == 0) = false := beq_eq_false_iff_ne.2 (by omega)
      have k1 : (kind == 1) = false := by simp [h1]
      have k2 : (kind == 2) = false := by simp [h2]
      have k3 : (kind == 3) = false := by simp [h3]
      have k4 : (kind == 4) = false := by simp; omega
      have k5 : (kind == 5) = false := by simp; omega
      have k6 : (kind == 6) = false := by simp; omega
      clear hu hs hv h1 h2 h3 h4
      go_enter Try.func89, Try.ntmps89
      go_wp2
      exact bodyPost_ret (v := .tuple #[.nilIface, .bool false]) (by simp [results, Try.results89, go_sem]) rfl ⟨⟨_, rfl, .inl rfl, fun h => by cases h⟩, (Ext.refl w).alloc _⟩

theorem ta_num (x : Value) (w : World) : Sem.run Try.prog (Instr.typeAssert (.iface 162 x) 107 169 true) w = .ok (.tuple #[.agg #[.int .i64 0, .nilIface, .nilIface], .bool false]) w := by kernel_rfl
theorem ta_idx (x : Value) (w : World) : Sem.run Try.prog (Instr.typeAssert (.iface 165 x) 107 169 true) w = .ok (.tuple #[.agg #[.int .i64 0, .nilIface, .nilIface], .bool false]) w := by kernel_rfl
theorem ta_read (x : Value) (w : World) : Sem.run Try.prog (Instr.typeAssert (.iface 167 x) 107 169 true) w = .ok (.tuple #[.agg #[.int .i64 0, .nilIface, .nilIface], .bool false]) w := by kernel_rfl
theorem ta_op (x : Value) (w : World) : Sem.run Try.prog (Instr.typeAssert (.iface 169 x) 107 169 true) w = .ok (.tuple #[x, .bool true]) w := by kernel_rfl

theorem NdR.iface {B : Nat} {w : World} {v : Value} {e : Ex} (h : NdR B w v e) : ∃ t p, v = .iface t p := by
  cases h <;> exact ⟨_, _, rfl⟩
theorem box1 {W : World} {g : Nat} {a : Value} {t : TypeId} (h : W.heap[g]? = some (.cells #[a] t (0, 0))) : W.cell? ⟨g, 0, none⟩ = some a ∧ W.frozen? ⟨g, 0, none⟩ = false := by
  simp [World.cell?, World.frozen?, h]
theorem box1_set {W : World} {g : Nat} {a b : Value} {t : TypeId} (h : W.heap[g]? = some (.cells #[a] t (0, 0))) : (W.setCell ⟨g, 0, none⟩ b).heap[g]? = some (.cells #[b] t (0, 0)) := by
  simpa using heap_setCell_same W g 0 #[a] t b h
theorem blk3 {W : World} {g : Nat} {a b c : Value} {t : TypeId} (h : W.heap[g]? = some (.cells #[a, b, c] t (0, 0))) : W.cell? ⟨g, 0, none⟩ = some a ∧ W.cell? ⟨g, 1, none⟩ = some b ∧ W.cell? ⟨g, 2, none⟩ = some c := by
  simp [World.cell?, h]
theorem blk3f {W : World} {g : Nat} {a b c : Value} {t : TypeId} (h : W.heap[g]? = some (.cells #[a, b, c] t (0, 0))) (j : Nat) : W.frozen? ⟨g, j, none⟩ = false := by
  simp [World.frozen?, h]

set_option maxHeartbeats 400000 in
theorem count1_any (nv : Value) (g : Nat) (c : Int) (w : World) (hg : w.heap[g]? = some (.cells #[.int .i64 c] 3 (0, 0))) (h0 : 0 ≤ c) (h1 : c ≤ 1000) :
    Calls Try.prog 109 #[nv, .pointer (some ⟨g, 0, none⟩)] w fun r w' => r = .returned (.bool true) ∧ w' = w.setCell ⟨g, 0, none⟩ (.int .i64 (c + 1)) := by
  obtain ⟨c0, c1⟩ := box1 hg
  clear hg
  go_enter Try.func109, Try.ntmps109
  go_wp2
  go_ret
  exact ⟨rfl, rfl⟩

/-- All blocks but g stand. -/
def KeptG (g : Nat) (w w' : World) : Prop := ∀ (k : Nat) (o : Obj), k ≠ g → w.heap[k]? = some o → w'.heap[k]? = some o
theorem KeptG.trans {g : Nat} {a b c : World} (h : KeptG g a b) (k : KeptG g b c) : KeptG g a c := fun j o hj ho => k j o hj (h j o hj ho)
theorem KeptG.set (g : Nat) (w : World) (u : Value) : KeptG g w (w.setCell ⟨g, 0, none⟩ u) := fun _ _ hk h => blk_off h hk u
theorem KeptG.alloc (g : Nat) (w : World) (o : Obj) : KeptG g w (w.alloc o) := fun _ _ _ h => blk_old h

set_option maxRecDepth 100000 in
set_option maxHeartbeats 2000000 in
theorem visitCount (dd : Int) (B g : Nat) (w0 : World) (hg0 : w0.heap.size ≤ g) : ∀ (L : Nat) (v : Value) (e : Ex) (w : World) (c : Int), L ≤ 5 → shapeB L e dd = true → NdR B w0 v e → Ext w0 w → w.heap[g]? = some (.cells #[.int .i64 c] 3 (0, 0)) → 0 ≤ c → c + countE L e ≤ 1000 →
    Calls Try.prog 108 #[v, .func (.func 109) #[] #[.pointer (some ⟨g, 0, none⟩)]] w fun r w' => r = .returned (.bool true) ∧ Ext w0 w' ∧ KeptG g w w' ∧ w'.heap[g]? = some (.cells #[.int .i64 (c + countE L e)] 3 (0, 0))
  | 0, v, e, w, c, hL, hsh, hv, hE, hg, h0, h1 => by simp [shapeB] at hsh
  | L + 1, v, e, w, c, hL, hsh, hv, hE, hg, h0, h1 => by
    cases hv with
    | num n =>
      have hc : countE (L + 1) (.mk 1 n ([], 0) ⟨#[]⟩ [] []) = 1 := by simp [countE, Ex.kids]
      rw [hc] at h1 ⊢
      have HE := Lib.hid hE; have HG := Lib.hid hg; clear hE hg hc hsh
      go_enter Try.func108, Try.ntmps108
      go_wp2_with (fail)
      refine (count1_any _ g c w HG.out h0 (by omega)).mono ?_
      rintro r w1 ⟨rfl, rfl⟩
      have hta := ta_num (.int .i64 n)
      go_wp2
      go_ret
      exact ⟨rfl, (HE.out.setCell hg0 _).alloc _, (KeptG.set g w _).trans (KeptG.alloc g _ _), blk_old (box1_set HG.out)⟩
    | idx a b c' d k h =>
      have hc : countE (L + 1) (.mk 2 0 ([a, b, c', d], k) ⟨#[]⟩ [] []) = 1 := by simp [countE, Ex.kids]
      rw [hc] at h1 ⊢
      have HE := Lib.hid hE; have HG := Lib.hid hg; clear hE hg hc hsh
      go_enter Try.func108, Try.ntmps108
      go_wp2_with (fail)
      refine (count1_any _ g c w HG.out h0 (by omega)).mono ?_
      rintro r w1 ⟨rfl, rfl⟩
      have hta := ta_idx (.agg #[.int .i64 a, .int .i64 b, .int .i64 c', .int .i64 d, .int .i64 k])
      go_wp2
      go_ret
      exact ⟨rfl, (HE.out.setCell hg0 _).alloc _, (KeptG.set g w _).trans (KeptG.alloc g _ _), blk_old (box1_set HG.out)⟩
    | read arr s subs h =>
      have hc : countE (L + 1) (.mk 3 0 ([], 0) arr subs []) = 1 := by simp [countE, Ex.kids]
      rw [hc] at h1 ⊢
      have HE := Lib.hid hE; have HG := Lib.hid hg; clear hE hg hc hsh
      go_enter Try.func108, Try.ntmps108
      go_wp2_with (fail)
      refine (count1_any _ g c w HG.out h0 (by omega)).mono ?_
      rintro r w1 ⟨rfl, rfl⟩
      have hta := ta_read (.agg #[.string arr, s])
      go_wp2
      go_ret
      exact ⟨rfl, (HE.out.setCell hg0 _).alloc _, (KeptG.set g w _).trans (KeptG.alloc g _ _), blk_old (box1_set HG.out)⟩
    | op kind x y ex ey hk hx hy =>
      have hsx := shape_kids hsh ex (by simp [Ex.kids])
      have hsy := shape_kids hsh ey (by simp [Ex.kids])
      have hbx := countE_bd L ex hsx
      have hby := countE_bd L ey hsy
      obtain ⟨tx, px, rfl⟩ := hx.iface
      obtain ⟨ty, py, rfl⟩ := hy.iface
      have HX := Lib.hid hx; have HY := Lib.hid hy; have HSX := Lib.hid hsx; have HSY := Lib.hid hsy
      have hc : countE (L + 1) (.mk kind 0 ([], 0) ⟨#[]⟩ [] [ex, ey]) = 1 + (countE L ex + countE L ey) := by simp [countE, Ex.kids]
      rw [hc] at h1 ⊢
      obtain ⟨p, hp⟩ : ∃ p, countE L ex = p := ⟨_, rfl⟩
      obtain ⟨q, hq⟩ : ∃ q, countE L ey = q := ⟨_, rfl⟩
      rw [hp] at h1 hbx ⊢
      rw [hq] at h1 hby ⊢
      have HP := Lib.hid hp; have HQ := Lib.hid hq
      have hp0 := hbx.1; have hq0 := hby.1
      have HE := Lib.hid hE; have HG := Lib.hid hg
      have hgl := lt_of_block hg
      clear hE hg hc hsh hp hq hbx hby hx hy hsx hsy
      go_enter Try.func108, Try.ntmps108
      go_wp2_with (fail)
      refine (count1_any _ g c w HG.out h0 (by omega)).mono ?_
      rintro r w1 ⟨rfl, rfl⟩
      have hta := ta_op (.agg #[.int .i64 kind, .iface tx px, .iface ty py])
      have E2 : Hid (Ext w0 ((w.setCell ⟨g, 0, none⟩ (.int .i64 (c + 1))).alloc (.cells #[.int .i64 kind, .iface tx px, .iface ty py] 169))) := Lib.hid ((HE.out.setCell hg0 _).alloc _)
      have G2 : Hid (((w.setCell ⟨g, 0, none⟩ (.int .i64 (c + 1))).alloc (.cells #[.int .i64 kind, .iface tx px, .iface ty py] 169)).heap[g]? = some (.cells #[.int .i64 (c + 1)] 3 (0, 0))) := Lib.hid (blk_old (box1_set HG.out))
      have K2 : Hid (KeptG g w ((w.setCell ⟨g, 0, none⟩ (.int .i64 (c + 1))).alloc (.cells #[.int .i64 kind, .iface tx px, .iface ty py] 169))) := Lib.hid ((KeptG.set g w _).trans (KeptG.alloc g _ _))
      have B2 : Hid (((w.setCell ⟨g, 0, none⟩ (.int .i64 (c + 1))).alloc (.cells #[.int .i64 kind, .iface tx px, .iface ty py] 169)).heap[w.heap.size]? = some (.cells #[.int .i64 kind, .iface tx px, .iface ty py] 169 (0, 0))) := Lib.hid (blk_at (by simp))
      go_wp2_with (fail)
      refine (visitCount dd B g w0 hg0 L _ ex _ (c + 1) (by omega) HSX.out HX.out E2.out G2.out (by omega) (by rw [HP.out]; omega)).mono ?_
      rw [HP.out]
      rintro r w3 ⟨rfl, hE3, hK3, hG3⟩
      have E3 := Lib.hid hE3; have K3 := Lib.hid (K2.out.trans hK3); have G3 := Lib.hid hG3
      obtain ⟨o0, o1, o2⟩ := blk3 (hK3 _ _ (by omega) B2.out)
      clear hE3 hK3 hG3
      go_wp2_with (fail)
      refine (visitCount dd B g w0 hg0 L _ ey _ (c + 1 + p) (by omega) HSY.out HY.out E3.out G3.out (by omega) (by rw [HQ.out]; omega)).mono ?_
      rw [HQ.out]
      rintro r w4 ⟨rfl, hE4, hK4, hG4⟩
      have E4 := Lib.hid hE4; have K4 := Lib.hid (K3.out.trans hK4)
      have G4 : Hid (w4.heap[g]? = some (.cells #[.int .i64 (c + (1 + (p + q)))] 3 (0, 0))) := Lib.hid (by rw [show c + (1 + (p + q)) = c + 1 + p + q by omega]; exact hG4)
      clear hE4 hK4 hG4 o0 o1 o2
      go_wp2
      go_ret
      exact ⟨rfl, E4.out, K4.out, G4.out⟩

set_option maxHeartbeats 1000000 in
theorem countNodes_any (dd : Int) (B L : Nat) (v : Value) (e : Ex) (w : World) (hL : L ≤ 5) (hsh : shapeB L e dd = true) (hv : NdR B w v e) :
    Calls Try.prog 90 #[v] w fun r w' => r = .returned (.int .i64 (countE L e)) ∧ Ext w w' := by
  have hb := countE_bd L e hsh
  have h63 := bC_five hL
  have HSH := Lib.hid hsh; have HV := Lib.hid hv
  clear hsh hv
  go_enter Try.func90, Try.ntmps90
  go_wp2_with (fail)
  refine (visitCount dd B w.heap.size w (Nat.le_refl _) L v e _ 0 hL HSH.out HV.out ((Ext.refl w).alloc _) (blk_at rfl) (by omega) (by omega)).mono ?_
  rintro r w2 ⟨rfl, hE, -, hG⟩
  have E2 := Lib.hid hE
  obtain ⟨c0, -⟩ := box1 hG
  rw [Int.zero_add] at c0
  clear hE hG
  go_wp2
  go_ret
  exact ⟨rfl, E2.out⟩
end Go.Proofs.Ytccibfldadflkaa
