/- The texts S15 S16, joined. No statement is proved here. -/
import Derived.Test.YtggpjapmhakklaaK27
import Derived.Test.YtggpjapmhakklaaK38
/- The program's nodeOf. No statement is proved here. -/
namespace Go.Proofs.Ytggpjapmhakklaa
open Go.RowKit

/-- What nodeOf does with the expressions of a level. -/
def NdOf (dd : Int) (L : Nat) : Prop := ∀ (e : Ex) (u s v : Value) (w : World), IntsAt w u e.ix.1 → e.arr.size ≤ 9223372036854775807 → AffsAt w s e.subs → ExsAt w v e.kids →
  Calls Try.prog 77 #[.agg #[.int .i64 e.kind, .int .i64 e.num, u, .int .i64 e.ix.2, .string e.arr, s, v], .int .i64 dd, .int .i64 (L : Int)] w fun r w' =>
    (∃ nv, r = .returned (.tuple #[nv, .bool (shapeB L e dd)]) ∧ (nv = .nilIface ∨ ∃ t x, nv = .iface t x) ∧ (shapeB L e dd = true → NdR w.heap.size w' nv e)) ∧ Ext w w'

set_option maxRecDepth 100000 in
set_option maxHeartbeats 2000000 in
theorem nodeOp_any (L : Nat) (kind num k dd : Int) (hk : kind = 4 ∨ kind = 5 ∨ kind = 6) (hL : L ≤ 5) (IH : NdOf dd L) (u s v : Value) (xs : List Int) (arr : ByteArray) (subs : List Aff) (kids : List Ex) (w : World) (hu : IntsAt w u xs) (ha : arr.size ≤ 9223372036854775807) (hs : AffsAt w s subs) (hv : ExsAt w v kids) :
    Calls Try.prog 77 #[.agg #[.int .i64 kind, .int .i64 num, u, .int .i64 k, .string arr, s, v], .int .i64 dd, .int .i64 ((L : Int) + 1)] w
      fun r w' => (∃ nv, r = .returned (.tuple #[nv, .bool (shapeB (L + 1) (.mk kind num (xs, k) arr subs kids) dd)]) ∧ (nv = .nilIface ∨ ∃ t x, nv = .iface t x) ∧ (shapeB (L + 1) (.mk kind num (xs, k) arr subs kids) dd = true → NdR w.heap.size w' nv (.mk kind num (xs, k) arr subs kids))) ∧ Ext w w' := by
  obtain ⟨pu, cu, rfl, hmu, -⟩ := id hu
  obtain ⟨ps, cs, rfl, hms⟩ := hs.form
  obtain ⟨pv, cv, rfl, hmv⟩ := hv.form
  have HU := Lib.hid hu; have HS := Lib.hid hs; have HV := Lib.hid hv; clear hu hs hv
  have hd : (((L : Int) + 1) == 0) = false := beq_eq_false_iff_ne.2 (by omega)
  have hwl : IntKind.i64.wrap (L : Int) = (L : Int) := by rw [IntKind.wrap_i64]; omega
  have HSH := Lib.hid (shapeOp L kind num (xs, k) arr subs kids dd hk)
  obtain ⟨q, hq⟩ : ∃ q, shapeB (L + 1) (.mk kind num (xs, k) arr subs kids) dd = q := ⟨_, rfl⟩
  rw [hq]
  have HQ := Lib.hid hq; clear hq
  by_cases h2 : kids.length = 2
  · obtain ⟨bb, hbb⟩ : ∃ bb, bareB num (xs, k) arr subs 0 = bb := ⟨_, rfl⟩
    have HBB := Lib.hid hbb; clear hbb
    have hlb : ((kids.length : Int) != 2) = false := by simp [h2]
    have H2 := Lib.hid h2; clear h2
    have HF : Hid (bb = true → ∀ (n0 n1 : Value) (e0 e1 : Ex) (W : World), kids = [e0, e1] → NdR w.heap.size W n0 e0 → NdR w.heap.size W n1 e1 → NdR w.heap.size W (.iface 165 (.agg #[.int .i64 kind, n0, n1])) (.mk kind num (xs, k) arr subs kids)) := Lib.hid (by
      rintro rfl n0 n1 e0 e1 W rfl h0 h1
      obtain ⟨rfl, hx, rfl, rfl, -⟩ := bareB_parts HBB.out
      rw [hx]
      exact .op kind n0 n1 e0 e1 hk h0 h1)
    have k1 : (kind == 1) = false := by simp; omega
    have k2 : (kind == 2) = false := by simp; omega
    have k3 : (kind == 3) = false := by simp; omega
    have k456 : ((kind == 4) = true) ∨ ((kind == 4) = false ∧ (kind == 5) = true) ∨ ((kind == 4) = false ∧ (kind == 5) = false ∧ (kind == 6) = true) := by simp; omega
    clear hk
    rcases k456 with k4 | ⟨k4, k5⟩ | ⟨k4, k5, k6⟩
    all_goals
      go_enter Try.func77, Try.ntmps77
      go_wp2_with (fail)
      refine (bare_any _ num k _ _ _ xs arr subs 0 _ (HU.out.ext ((Ext.refl w).alloc _)) (HS.out.ext ((Ext.refl w).alloc _)) ⟨_, _, rfl⟩ (by omega)).mono ?_
      rw [HBB.out]
      rintro e W1 ⟨rfl, hE⟩
      have B1 := Lib.hid (hE.blk (g := w.heap.size) (blk_at rfl))
      have E1 := Lib.hid (((Ext.refl w).alloc _).trans hE)
      clear hE
      cases bb with
      | false =>
        obtain rfl : q = false := by rw [← HQ.out, HSH.out, HBB.out]; simp
        clear HQ HSH HF
        go_wp2
        exact bodyPost_ret (v := .tuple #[.nilIface, .bool false]) (by simp [results, Try.results77, go_sem]) rfl ⟨⟨_, rfl, .inl rfl, fun h => by cases h⟩, E1.out⟩
      | true =>
        obtain ⟨e0, h0⟩ := get_some (xs := kids) (k := 0) (by rw [H2.out]; omega)
        obtain ⟨e1, h1⟩ := get_some (xs := kids) (k := 1) (by rw [H2.out]; omega)
        have hkids : kids = [e0, e1] := by
          have := H2.out
          match kids, this, h0, h1 with
          | [_, _], _, h0, h1 => simp at h0 h1; rw [h0, h1]
        obtain ⟨b, off, u0, s0, v0, rfl, hb, c0, c1, c2, c3, c4, c5, c6, hu0, ha0, hs0, hv0⟩ := (HV.out.ext E1.out).elem h0
        obtain ⟨b', off', u1, s1, v1, he', hb', d0, d1, d2, d3, d4, d5, d6, hu1, ha1, hs1, hv1⟩ := (HV.out.ext E1.out).elem h1
        simp only [Option.some.injEq, Addr.mk.injEq, and_true] at he'
        obtain ⟨rfl, rfl⟩ := he'
        rw [Nat.zero_mul, Nat.add_zero] at c0 c1 c2 c3 c4 c5 c6
        rw [Nat.one_mul] at d0 d1 d2 d3 d4 d5 d6
        obtain ⟨q0, hq0⟩ : ∃ q0, shapeB L e0 dd = q0 := ⟨_, rfl⟩
        obtain ⟨q1, hq1⟩ : ∃ q1, shapeB L e1 dd = q1 := ⟨_, rfl⟩
        have HQ0 := Lib.hid hq0; have HQ1 := Lib.hid hq1; have HKD := Lib.hid hkids
        have HU1 := Lib.hid hu1; have HS1 := Lib.hid hs1; have HV1 := Lib.hid hv1; have HU0 := Lib.hid hu0; have HS0 := Lib.hid hs0; have HV0 := Lib.hid hv0
        obtain rfl : q = (q0 && q1) := by rw [← HQ.out, HSH.out, HBB.out, H2.out, hkids]; simp [hq0, hq1]
        clear hq0 hq1 hkids h0 h1 hu1 hs1 hv1 hu0 hs0 hv0 HQ HSH
        have hp0 : 0 < kids.length := by rw [H2.out]; omega
        have hp1 : 1 < kids.length := by rw [H2.out]; omega
        go_wp2_with (fail)
        refine (IH e0 _ _ _ W1 HU0.out ha0 HS0.out HV0.out).mono ?_
        rw [HQ0.out]
        rintro r W2 ⟨⟨n0, rfl, hf0, hn0⟩, hE2⟩
        replace d0 := hE2.keep d0; replace d1 := hE2.keep d1; replace d2 := hE2.keep d2; replace d3 := hE2.keep d3; replace d4 := hE2.keep d4; replace d5 := hE2.keep d5; replace d6 := hE2.keep d6
        have B2 := Lib.hid (hE2.blk B1.out); have E2 := Lib.hid (E1.out.trans hE2); have X2 := Lib.hid hE2
        have HN0 := Lib.hid hn0
        clear hE2 hn0 c0 c1 c2 c3 c4 c5 c6
        go_wp2_with (fail)
        refine (IH e1 _ _ _ W2 (HU1.out.ext X2.out) ha1 (HS1.out.ext X2.out) (HV1.out.ext X2.out)).mono ?_
        rw [HQ1.out]
        rintro r W3 ⟨⟨n1, rfl, hf1, hn1⟩, hE3⟩
        have B3 := Lib.hid (hE3.blk B2.out); have E3 := Lib.hid (E2.out.trans hE3)
        have hz1 := E1.out.size_le; have hz2 := E2.out.size_le
        have HNN : Hid ((q0 && q1) = true → NdR w.heap.size W3 (.iface 165 (.agg #[.int .i64 kind, n0, n1])) (.mk kind num (xs, k) arr subs kids)) := Lib.hid (fun h => by
          simp only [Bool.and_eq_true] at h
          exact HF.out trivial n0 n1 e0 e1 W3 HKD.out (((HN0.out h.1).weak hz1).ext hE3) ((hn1 h.2).weak hz2))
        clear hE3 hn1 d0 d1 d2 d3 d4 d5 d6 HN0
        obtain ⟨x0, -⟩ := blk7 B3.out
        have HIF : ∀ p : Value, Hid (Value.iface 165 p = .nilIface ∨ ∃ t x, Value.iface 165 p = .iface t x) := fun p => Lib.hid (.inr ⟨_, _, rfl⟩)
        cases q0 with
        | false =>
          rcases hf0 with rfl | ⟨t0, p0, rfl⟩
          · rcases hf1 with rfl | ⟨t1, p1, rfl⟩
            · go_wp2
              exact bodyPost_ret (v := .tuple #[.iface 165 (.agg #[.int .i64 kind, .nilIface, .nilIface]), .bool false]) (by simp [results, Try.results77, go_sem]) rfl ⟨⟨_, by first | rfl | rw [Bool.true_and] | simp, (HIF _).out, HNN.out⟩, E3.out⟩
            · go_wp2
              exact bodyPost_ret (v := .tuple #[.iface 165 (.agg #[.int .i64 kind, .nilIface, .iface t1 p1]), .bool false]) (by simp [results, Try.results77, go_sem]) rfl ⟨⟨_, by first | rfl | rw [Bool.true_and] | simp, (HIF _).out, HNN.out⟩, E3.out⟩
          · rcases hf1 with rfl | ⟨t1, p1, rfl⟩
            · go_wp2
              exact bodyPost_ret (v := .tuple #[.iface 165 (.agg #[.int .i64 kind, .iface t0 p0, .nilIface]), .bool false]) (by simp [results, Try.results77, go_sem]) rfl ⟨⟨_, by first | rfl | rw [Bool.true_and] | simp, (HIF _).out, HNN.out⟩, E3.out⟩
            · go_wp2
              exact bodyPost_ret (v := .tuple #[.iface 165 (.agg #[.int .i64 kind, .iface t0 p0, .iface t1 p1]), .bool false]) (by simp [results, Try.results77, go_sem]) rfl ⟨⟨_, by first | rfl | rw [Bool.true_and] | simp, (HIF _).out, HNN.out⟩, E3.out⟩
        | true =>
          rcases hf0 with rfl | ⟨t0, p0, rfl⟩
          · rcases hf1 with rfl | ⟨t1, p1, rfl⟩
            · go_wp2
              exact bodyPost_ret (v := .tuple #[.iface 165 (.agg #[.int .i64 kind, .nilIface, .nilIface]), .bool q1]) (by simp [results, Try.results77, go_sem]) rfl ⟨⟨_, by first | rfl | rw [Bool.true_and] | simp, (HIF _).out, HNN.out⟩, E3.out⟩
            · go_wp2
              exact bodyPost_ret (v := .tuple #[.iface 165 (.agg #[.int .i64 kind, .nilIface, .iface t1 p1]), .bool q1]) (by simp [results, Try.results77, go_sem]) rfl ⟨⟨_, by first | rfl | rw [Bool.true_and] | simp, (HIF _).out, HNN.out⟩, E3.out⟩
          · rcases hf1 with rfl | ⟨t1, p1, rfl⟩
            · go_wp2
              exact bodyPost_ret (v := .tuple #[.iface 165 (.agg #[.int .i64 kind, .iface t0 p0, .nilIface]), .bool q1]) (by simp [results, Try.results77, go_sem]) rfl ⟨⟨_, by first | rfl | rw [Bool.true_and] | simp, (HIF _).out, HNN.out⟩, E3.out⟩
            · go_wp2
              exact bodyPost_ret (v := .tuple #[.iface 165 (.agg #[.int .i64 kind, .iface t0 p0, .iface t1 p1]), .bool q1]) (by simp [results, Try.results77, go_sem]) rfl ⟨⟨_, by first | rfl | rw [Bool.true_and] | simp, (HIF _).out, HNN.out⟩, E3.out⟩
  · have hlb : ((kids.length : Int) != 2) = true := by simp; omega
    obtain rfl : q = false := by rw [← HQ.out, HSH.out, decide_eq_false h2]; rfl
    clear h2
    rcases hk with rfl | rfl | rfl
    · go_enter Try.func77, Try.ntmps77
      go_wp2
      exact bodyPost_ret (v := .tuple #[.nilIface, .bool false]) (by simp [results, Try.results77, go_sem]) rfl ⟨⟨_, rfl, .inl rfl, fun h => by cases h⟩, (Ext.refl w).alloc _⟩
    · go_enter Try.func77, Try.ntmps77
      go_wp2
      exact bodyPost_ret (v := .tuple #[.nilIface, .bool false]) (by simp [results, Try.results77, go_sem]) rfl ⟨⟨_, rfl, .inl rfl, fun h => by cases h⟩, (Ext.refl w).alloc _⟩
    · go_enter Try.func77, Try.ntmps77
      go_wp2
      exact bodyPost_ret (v := .tuple #[.nilIface, .bool false]) (by simp [results, Try.results77, go_sem]) rfl ⟨⟨_, rfl, .inl rfl, fun h => by cases h⟩, (Ext.refl w).alloc _⟩
end Go.Proofs.Ytggpjapmhakklaa

/- The program's nodeOf at every level; the count of nodes by a visit. No statement is proved here. -/
namespace Go.Proofs.Ytggpjapmhakklaa
open Go.RowKit

set_option maxRecDepth 100000 in
set_option maxHeartbeats 1000000 in
theorem nodeOf_all (dd : Int) : ∀ (L : Nat), L ≤ 5 → NdOf dd L
  | 0, _ => by
    intro e u s v w hu ha hs hv
    obtain ⟨pu, cu, rfl, hmu, -⟩ := id hu
    obtain ⟨ps, cs, rfl, hms⟩ := hs.form
    obtain ⟨pv, cv, rfl, hmv⟩ := hv.form
    clear hu hs hv
    have HR : Hid (shapeB 0 e dd = false) := Lib.hid rfl
    rw [HR.out]
    go_enter Try.func77, Try.ntmps77
    go_wp2
    exact bodyPost_ret (v := .tuple #[.nilIface, .bool false]) (by simp [results, Try.results77, go_sem]) rfl ⟨⟨_, rfl, .inl rfl, fun h => by cases h⟩, (Ext.refl w).alloc _⟩
  | L + 1, hL => by
    intro e u s v w hu ha hs hv
    obtain ⟨kind, num, ⟨xs, k⟩, arr, subs, kids⟩ := e
    simp only [Ex.kind, Ex.num, Ex.ix, Ex.arr, Ex.subs, Ex.kids] at *
    rw [show ((L + 1 : Nat) : Int) = (L : Int) + 1 from by omega]
    obtain ⟨pv, cv, rfl, hmv⟩ := hv.form
    by_cases h1 : kind = 1
    · subst h1
      refine (nodeNum_any L num k dd u s _ xs arr subs kids.length w hu hs ⟨_, _, rfl⟩ hmv).mono ?_
      rintro r w' ⟨rfl, hE⟩
      refine ⟨⟨_, by rw [shape1], .inr ⟨_, _, rfl⟩, fun h => ?_⟩, hE⟩
      rw [shape1] at h
      simp only [Bool.and_eq_true] at h
      obtain ⟨-, hx, rfl, rfl, h0⟩ := bareB_parts h.2.2
      obtain rfl := List.eq_nil_of_length_eq_zero h0
      rw [hx]
      exact .num num
    by_cases h2 : kind = 2
    · subst h2
      refine (nodeIdx_any L num k dd u s _ xs arr subs kids.length w hu hs ⟨_, _, rfl⟩ hmv).mono ?_
      rintro r w' ⟨⟨a, b, c, d, m, rfl, hval⟩, hE⟩
      refine ⟨⟨_, by rw [shape2], .inr ⟨_, _, rfl⟩, fun h => ?_⟩, hE⟩
      rw [shape2] at h
      simp only [Bool.and_eq_true, boundB] at h
      obtain ⟨rfl, -, rfl, rfl, h0⟩ := bareB_parts h.2
      obtain rfl := List.eq_nil_of_length_eq_zero h0
      obtain ⟨rfl, rfl⟩ := hval h.1.1
      exact .idx a b c d m h.1.1
    by_cases h3 : kind = 3
    · subst h3
      refine (nodeRead_any L num k dd u s _ xs arr subs kids.length w hu ha hs ⟨_, _, rfl⟩ hmv).mono ?_
      rintro r w' ⟨⟨a', p', n', c', rfl, hval⟩, hE⟩
      refine ⟨⟨_, by rw [shape3], .inr ⟨_, _, rfl⟩, fun h => ?_⟩, hE⟩
      rw [shape3] at h
      simp only [Bool.and_eq_true] at h
      obtain ⟨rfl, hx, -, -, h0⟩ := bareB_parts h.2
      obtain rfl := List.eq_nil_of_length_eq_zero h0
      obtain ⟨rfl, ho⟩ := hval h.1
      rw [hx]
      exact .read _ _ _ ho
    by_cases h4 : kind = 4 ∨ kind = 5 ∨ kind = 6
    · exact nodeOp_any L kind num k dd h4 (by omega) (nodeOf_all dd L (by omega)) u s _ xs arr subs kids w hu ha hs hv
    · have HR := Lib.hid (shapeBad L kind num (xs, k) arr subs kids dd (by omega))
      rw [HR.out]
      obtain ⟨pu, cu, rfl, hmu, -⟩ := id hu
      obtain ⟨ps, cs, rfl, hms⟩ := hs.form
      have hd : (((L : Int) + 1) == 0) = false := beq_eq_false_iff_ne.2 (by omega)
      have k1 : (kind == 1) = false := by simp [h1]
      have k2 : (kind == 2) = false := by simp [h2]
      have k3 : (kind == 3) = false := by simp [h3]
      have k4 : (kind == 4) = false := by simp; omega
      have k5 : (kind == 5) = false := by simp; omega
      have k6 : (kind == 6) = false := by simp; omega
      clear hu hs hv h1 h2 h3 h4
      go_enter Try.func77, Try.ntmps77
      go_wp2
      exact bodyPost_ret (v := .tuple #[.nilIface, .bool false]) (by simp [results, Try.results77, go_sem]) rfl ⟨⟨_, rfl, .inl rfl, fun h => by cases h⟩, (Ext.refl w).alloc _⟩

theorem ta_num (x : Value) (w : World) : Sem.run Try.prog (Instr.typeAssert (.iface 160 x) 86 165 true) w = .ok (.tuple #[.agg #[.int .i64 0, .nilIface, .nilIface], .bool false]) w := by kernel_rfl
theorem ta_idx (x : Value) (w : World) : Sem.run Try.prog (Instr.typeAssert (.iface 163 x) 86 165 true) w = .ok (.tuple #[.agg #[.int .i64 0, .nilIface, .nilIface], .bool false]) w := by kernel_rfl
theorem ta_read (x : Value) (w : World) : Sem.run Try.prog (Instr.typeAssert (.iface 130 x) 86 165 true) w = .ok (.tuple #[.agg #[.int .i64 0, .nilIface, .nilIface], .bool false]) w := by kernel_rfl
theorem ta_op (x : Value) (w : World) : Sem.run Try.prog (Instr.typeAssert (.iface 165 x) 86 165 true) w = .ok (.tuple #[x, .bool true]) w := by kernel_rfl

theorem NdR.iface {B : Nat} {w : World} {v : Value} {e : Ex} (h : NdR B w v e) : ∃ t p, v = .iface t p := by
  cases h <;> exact ⟨_, _, rfl⟩
theorem box1 {W : World} {g : Nat} {a : Value} {t : TypeId} (h : W.heap[g]? = some (.cells #[a] t (0, 0))) : W.cell? ⟨g, 0, none⟩ = some a ∧ W.frozen? ⟨g, 0, none⟩ = false := by
  simp [World.cell?, World.frozen?, h]
theorem box1_set {W : World} {g : Nat} {a b : Value} {t : TypeId} (h : W.heap[g]? = some (.cells #[a] t (0, 0))) : (W.setCell ⟨g, 0, none⟩ b).heap[g]? = some (.cells #[b] t (0, 0)) := by
  simpa using heap_setCell_same W g 0 #[a] t b h
theorem blk3 {W : World} {g : Nat} {a b c : Value} {t : TypeId} (h : W.heap[g]? = some (.cells #[a, b, c] t (0, 0))) : W.cell? ⟨g, 0, none⟩ = some a ∧ W.cell? ⟨g, 1, none⟩ = some b ∧ W.cell? ⟨g, 2, none⟩ = some c := by
  simp [World.cell?, h]
theorem blk3f {W : World} {g : Nat} {a b c : Value} {t : TypeId} (h : W.heap[g]? = some (.cells #[a, b, c] t (0, 0))) (j : Nat) : W.frozen? ⟨g, j, none⟩ = false := by
  simp [World.frozen?, h]

set_option maxHeartbeats 400000 in
theorem count1_any (nv : Value) (g : Nat) (c : Int) (w : World) (hg : w.heap[g]? = some (.cells #[.int .i64 c] 3 (0, 0))) (h0 : 0 ≤ c) (h1 : c ≤ 1000) :
    Calls Try.prog 102 #[nv, .pointer (some ⟨g, 0, none⟩)] w fun r w' => r = .returned (.bool true) ∧ w' = w.setCell ⟨g, 0, none⟩ (.int .i64 (c + 1)) := by
  obtain ⟨c0, c1⟩ := box1 hg
  clear hg
  go_enter Try.func102, Try.ntmps102
  go_wp2
  go_ret
  exact ⟨rfl, rfl⟩

/-- All blocks but g stand. -/
def KeptG (g : Nat) (w w' : World) : Prop := ∀ (k : Nat) (o : Obj), k ≠ g → w.heap[k]? = some o → w'.heap[k]? = some o
theorem KeptG.trans {g : Nat} {a b c : World} (h : KeptG g a b) (k : KeptG g b c) : KeptG g a c := fun j o hj ho => k j o hj (h j o hj ho)
theorem KeptG.set (g : Nat) (w : World) (u : Value) : KeptG g w (w.setCell ⟨g, 0, none⟩ u) := fun _ _ hk h => blk_off h hk u
theorem KeptG.alloc (g : Nat) (w : World) (o : Obj) : KeptG g w (w.alloc o) := fun _ _ _ h => blk_old h

set_option maxRecDepth 100000 in
set_option maxHeartbeats 2000000 in
theorem visitCount (dd : Int) (B g : Nat) (w0 : World) (hg0 : w0.heap.size ≤ g) : ∀ (L : Nat) (v : Value) (e : Ex) (w : World) (c : Int), L ≤ 5 → shapeB L e dd = true → NdR B w0 v e → Ext w0 w → w.heap[g]? = some (.cells #[.int .i64 c] 3 (0, 0)) → 0 ≤ c → c + countE L e ≤ 1000 →
    Calls Try.prog 80 #[v, .func (.func 102) #[] #[.pointer (some ⟨g, 0, none⟩)]] w fun r w' => r = .returned (.bool true) ∧ Ext w0 w' ∧ KeptG g w w' ∧ w'.heap[g]? = some (.cells #[.int .i64 (c + countE L e)] 3 (0, 0))
  | 0, v, e, w, c, hL, hsh, hv, hE, hg, h0, h1 => by simp [shapeB] at hsh
  | L + 1, v, e, w, c, hL, hsh, hv, hE, hg, h0, h1 => by
    cases hv with
    | num n =>
      have hc : countE (L + 1) (.mk 1 n ([], 0) ⟨#[]⟩ [] []) = 1 := by simp [countE, Ex.kids]
      rw [hc] at h1 ⊢
      have HE := Lib.hid hE; have HG := Lib.hid hg; clear hE hg hc hsh
      go_enter Try.func80, Try.ntmps80
      go_wp2_with (fail)
      refine (count1_any _ g c w HG.out h0 (by omega)).mono ?_
      rintro r w1 ⟨rfl, rfl⟩
      have hta := ta_num (.int .i64 n)
      go_wp2
      go_ret
      exact ⟨rfl, (HE.out.setCell hg0 _).alloc _, (KeptG.set g w _).trans (KeptG.alloc g _ _), blk_old (box1_set HG.out)⟩
    | idx a b c' d k h =>
      have hc : countE (L + 1) (.mk 2 0 ([a, b, c', d], k) ⟨#[]⟩ [] []) = 1 := by simp [countE, Ex.kids]
      rw [hc] at h1 ⊢
      have HE := Lib.hid hE; have HG := Lib.hid hg; clear hE hg hc hsh
      go_enter Try.func80, Try.ntmps80
      go_wp2_with (fail)
      refine (count1_any _ g c w HG.out h0 (by omega)).mono ?_
      rintro r w1 ⟨rfl, rfl⟩
      have hta := ta_idx (.agg #[.int .i64 a, .int .i64 b, .int .i64 c', .int .i64 d, .int .i64 k])
      go_wp2
      go_ret
      exact ⟨rfl, (HE.out.setCell hg0 _).alloc _, (KeptG.set g w _).trans (KeptG.alloc g _ _), blk_old (box1_set HG.out)⟩
    | read arr s subs h =>
      have hc : countE (L + 1) (.mk 3 0 ([], 0) arr subs []) = 1 := by simp [countE, Ex.kids]
      rw [hc] at h1 ⊢
      have HE := Lib.hid hE; have HG := Lib.hid hg; clear hE hg hc hsh
      go_enter Try.func80, Try.ntmps80
      go_wp2_with (fail)
      refine (count1_any _ g c w HG.out h0 (by omega)).mono ?_
      rintro r w1 ⟨rfl, rfl⟩
      have hta := ta_read (.agg #[.string arr, s])
      go_wp2
      go_ret
      exact ⟨rfl, (HE.out.setCell hg0 _).alloc _, (KeptG.set g w _).trans (KeptG.alloc g _ _), blk_old (box1_set HG.out)⟩
    | op kind x y ex ey hk hx hy =>
      have hsx := shape_kids hsh ex (by simp [Ex.kids])
      have hsy := shape_kids hsh ey (by simp [Ex.kids])
      have hbx := countE_bd L ex hsx
      have hby := countE_bd L ey hsy
      obtain ⟨tx, px, rfl⟩ := hx.iface
      obtain ⟨ty, py, rfl⟩ := hy.iface
      have HX := Lib.hid hx; have HY := Lib.hid hy; have HSX := Lib.hid hsx; have HSY := Lib.hid hsy
      have hc : countE (L + 1) (.mk kind 0 ([], 0) ⟨#[]⟩ [] [ex, ey]) = 1 + (countE L ex + countE L ey) := by simp [countE, Ex.kids]
      rw [hc] at h1 ⊢
      obtain ⟨p, hp⟩ : ∃ p, countE L ex = p := ⟨_, rfl⟩
      obtain ⟨q, hq⟩ : ∃ q, countE L ey = q := ⟨_, rfl⟩
      rw [hp] at h1 hbx ⊢
      rw [hq] at h1 hby ⊢
      have HP := Lib.hid hp; have HQ := Lib.hid hq
      have hp0 := hbx.1; have hq0 := hby.1
      have HE := Lib.hid hE; have HG := Lib.hid hg
      have hgl := lt_of_block hg
      clear hE hg hc hsh hp hq hbx hby hx hy hsx hsy
      go_enter Try.func80, Try.ntmps80
      go_wp2_with (fail)
      refine (count1_any _ g c w HG.out h0 (by omega)).mono ?_
      rintro r w1 ⟨rfl, rfl⟩
      have hta := ta_op (.agg #[.int .i64 kind, .iface tx px, .iface ty py])
      have E2 : Hid (Ext w0 ((w.setCell ⟨g, 0, none⟩ (.int .i64 (c + 1))).alloc (.cells #[.int .i64 kind, .iface tx px, .iface ty py] 165))) := Lib.hid ((HE.out.setCell hg0 _).alloc _)
      have G2 : Hid (((w.setCell ⟨g, 0, none⟩ (.int .i64 (c + 1))).alloc (.cells #[.int .i64 kind, .iface tx px, .iface ty py] 165)).heap[g]? = some (.cells #[.int .i64 (c + 1)] 3 (0, 0))) := Lib.hid (blk_old (box1_set HG.out))
      have K2 : Hid (KeptG g w ((w.setCell ⟨g, 0, none⟩ (.int .i64 (c + 1))).alloc (.cells #[.int .i64 kind, .iface tx px, .iface ty py] 165))) := Lib.hid ((KeptG.set g w _).trans (KeptG.alloc g _ _))
      have B2 : Hid (((w.setCell ⟨g, 0, none⟩ (.int .i64 (c + 1))).alloc (.cells #[.int .i64 kind, .iface tx px, .iface ty py] 165)).heap[w.heap.size]? = some (.cells #[.int .i64 kind, .iface tx px, .iface ty py] 165 (0, 0))) := Lib.hid (blk_at (by simp))
      go_wp2_with (fail)
      refine (visitCount dd B g w0 hg0 L _ ex _ (c + 1) (by omega) HSX.out HX.out E2.out G2.out (by omega) (by rw [HP.out]; omega)).mono ?_
      rw [HP.out]
      rintro r w3 ⟨rfl, hE3, hK3, hG3⟩
      have E3 := Lib.hid hE3; have K3 := Lib.hid (K2.out.trans hK3); have G3 := Lib.hid hG3
      obtain ⟨o0, o1, o2⟩ := blk3 (hK3 _ _ (by omega) B2.out)
      clear hE3 hK3 hG3
      go_wp2_with (fail)
      refine (visitCount dd B g w0 hg0 L _ ey _ (c + 1 + p) (by omega) HSY.out HY.out E3.out G3.out (by omega) (by rw [HQ.out]; omega)).mono ?_
      rw [HQ.out]
      rintro r w4 ⟨rfl, hE4, hK4, hG4⟩
      have E4 := Lib.hid hE4; have K4 := Lib.hid (K3.out.trans hK4)
      have G4 : Hid (w4.heap[g]? = some (.cells #[.int .i64 (c + (1 + (p + q)))] 3 (0, 0))) := Lib.hid (by rw [show c + (1 + (p + q)) = c + 1 + p + q by omega]; exact hG4)
      clear hE4 hK4 hG4 o0 o1 o2
      go_wp2
      go_ret
      exact ⟨rfl, E4.out, K4.out, G4.out⟩

set_option maxHeartbeats 1000000 in
theorem countNodes_any (dd : Int) (B L : Nat) (v : Value) (e : Ex) (w : World) (hL : L ≤ 5) (hsh : shapeB L e dd = true) (hv : NdR B w v e) :
    Calls Try.prog 78 #[v] w fun r w' => r = .returned (.int .i64 (countE L e)) ∧ Ext w w' := by
  have hb := countE_bd L e hsh
  have h63 := bC_five hL
  have HSH := Lib.hid hsh; have HV := Lib.hid hv
  clear hsh hv
  go_enter Try.func78, Try.ntmps78
  go_wp2_with (fail)
  refine (visitCount dd B w.heap.size w (Nat.le_refl _) L v e _ 0 hL HSH.out HV.out ((Ext.refl w).alloc _) (blk_at rfl) (by omega) (by omega)).mono ?_
  rintro r w2 ⟨rfl, hE, -, hG⟩
  have E2 := Lib.hid hE
  obtain ⟨c0, -⟩ := box1 hG
  rw [Int.zero_add] at c0
  clear hE hG
  go_wp2
  go_ret
  exact ⟨rfl, E2.out⟩
end Go.Proofs.Ytggpjapmhakklaa
