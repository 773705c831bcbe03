/- The texts S15, joined. No statement is proved here. -/
import Derived.Test.YtccibfldadflkaaQV24
/- The program's nodeOf. No statement is proved here. -/
namespace Go.Proofs.Ytccibfldadflkaa
open Go.RowKit

/-- What nodeOf does with the expressions of a level. -/
def NdOf (dd : Int) (L : Nat) : Prop := ∀ (e : Ex) (u s v : Value) (w : World), IntsAt w u e.ix.1 → e.arr.size ≤ 9223372036854775807 → AffsAt w s e.subs → ExsAt w v e.kids →
  Calls Try.prog 89 #[.agg #[.int .i64 e.kind, .int .i64 e.num, u, .int .i64 e.ix.2, .string e.arr, s, v], .int .i64 dd, .int .i64 (L : Int)] w fun r w' =>
    (∃ nv, r = .returned (.tuple #[nv, .bool (shapeB L e dd)]) ∧ (nv = .nilIface ∨ ∃ t x, nv = .iface t x) ∧ (shapeB L e dd = true → NdR w.heap.size w' nv e)) ∧ Ext w w'

set_option maxRecDepth 100000 in
set_option maxHeartbeats 2000000 in
theorem nodeOp_any (L : Nat) (kind num k dd : Int) (hk : kind = 4 ∨ kind = 5 ∨ kind = 6) (hL : L ≤ 5) (IH : NdOf dd L) (u s v : Value) (xs : List Int) (arr : ByteArray) (subs : List Aff) (kids : List Ex) (w : World) (hu : IntsAt w u xs) (ha : arr.size ≤ 9223372036854775807) (hs : AffsAt w s subs) (hv : ExsAt w v kids) :
    Calls Try.prog 89 #[.agg #[.int .i64 kind, .int .i64 num, u, .int .i64 k, .string arr, s, v], .int .i64 dd, .int .i64 ((L : Int) + 1)] w
      fun r w' => (∃ nv, r = .returned (.tuple #[nv, .bool (shapeB (L + 1) (.mk kind num (xs, k) arr subs kids) dd)]) ∧ (nv = .nilIface ∨ ∃ t x, nv = .iface t x) ∧ (shapeB (L + 1) (.mk kind num (xs, k) arr subs kids) dd = true → NdR w.heap.size w' nv (.mk kind num (xs, k) arr subs kids))) ∧ Ext w w' := by
  obtain ⟨pu, cu, rfl, hmu, -⟩ := id hu
  obtain ⟨ps, cs, rfl, hms⟩ := hs.form
  obtain ⟨pv, cv, rfl, hmv⟩ := hv.form
  have HU := Lib.hid hu; have HS := Lib.hid hs; have HV := Lib.hid hv; clear hu hs hv
  have hd : (((L : Int) + 1) == 0) = false := beq_eq_false_iff_ne.2 (by omega)
  have hwl : IntKind.i64.wrap (L : Int) = (L : Int) := by rw [IntKind.wrap_i64]; omega
  have HSH := Lib.hid (shapeOp L kind num (xs, k) arr subs kids dd hk)
  obtain ⟨q, hq⟩ : ∃ q, shapeB (L + 1) (.mk kind num (xs, k) arr subs kids) dd = q := ⟨_, rfl⟩
  rw [hq]
  have HQ := Lib.hid hq; clear hq
  by_cases h2 : kids.length = 2
  · obtain ⟨bb, hbb⟩ : ∃ bb, bareB num (xs, k) arr subs 0 = bb := ⟨_, rfl⟩
    have HBB := Lib.hid hbb; clear hbb
    have hlb : ((kids.length : Int) != 2) = false := by simp [h2]
    have H2 := Lib.hid h2; clear h2
    have HF : Hid (bb = true → ∀ (n0 n1 : Value) (e0 e1 : Ex) (W : World), kids = [e0, e1] → NdR w.heap.size W n0 e0 → NdR w.heap.size W n1 e1 → NdR w.heap.size W (.iface 169 (.agg #[.int .i64 kind, n0, n1])) (.mk kind num (xs, k) arr subs kids)) := Lib.hid (by
      rintro rfl n0 n1 e0 e1 W rfl h0 h1
      obtain ⟨rfl, hx, rfl, rfl, -⟩ := bareB_parts HBB.out
      rw [hx]
      exact .op kind n0 n1 e0 e1 hk h0 h1)
    have k1 : (kind == 1) = false := by simp; omega
    have k2 : (kind == 2) = false := by simp; omega
    have k3 : (kind == 3) = false := by simp; omega
    have k456 : ((kind == 4) = true) ∨ ((kind == 4) = false ∧ (kind == 5) = true) ∨ ((kind == 4) = false ∧ (kind == 5) = false ∧ (kind == 6) = true) := by simp; omega
    clear hk
    rcases k456 with k4 | ⟨k4, k5⟩ | ⟨k4, k5, k6⟩
    all_goals
      go_enter Try.func89, Try.ntmps89
      go_wp2_with (fail)
      refine (bare_any _ num k _ _ _ xs arr subs 0 _ (HU.out.ext ((Ext.refl w).alloc _)) (HS.out.ext ((Ext.refl w).alloc _)) ⟨_, _, rfl⟩ (by omega)).mono ?_
      rw [HBB.out]
      rintro e W1 ⟨rfl, hE⟩
      have B1 := Lib.hid (hE.blk (g := w.heap.size) (blk_at rfl))
      have E1 := Lib.hid (((Ext.refl w).alloc _).trans hE)
      clear hE
      cases bb with
      | false =>
        obtain rfl : q = false := by rw [← HQ.out, HSH.out, HBB.out]; simp
        clear HQ HSH HF
        go_wp2
        exact bodyPost_ret (v := .tuple #[.nilIface, .bool false]) (by simp [results, Try.results89, go_sem]) rfl ⟨⟨_, rfl, .inl rfl, fun h => by cases h⟩, E1.out⟩
      | true =>
        obtain ⟨e0, h0⟩ := get_some (xs := kids) (k := 0) (by rw [H2.out]; omega)
        obtain ⟨e1, h1⟩ := get_some (xs := kids) (k := 1) (by rw [H2.out]; omega)
        have hkids : kids = [e0, e1] := by
          have := H2.out
          match kids, this, h0, h1 with
          | [_, _], _, h0, h1 => simp at h0 h1; rw [h0, h1]
        obtain ⟨b, off, u0, s0, v0, rfl, hb, c0, c1, c2, c3, c4, c5, c6, hu0, ha0, hs0, hv0⟩ := (HV.out.ext E1.out).elem h0
        obtain ⟨b', off', u1, s1, v1, he', hb', d0, d1, d2, d3, d4, d5, d6, hu1, ha1, hs1, hv1⟩ := (HV.out.ext E1.out).elem h1
        simp only [Option.some.injEq, Addr.mk.injEq, and_true] at he'
        obtain ⟨rfl, rfl⟩ := he'
        rw [Nat.zero_mul, Nat.add_zero] at c0 c1 c2 c3 c4 c5 c6
        rw [Nat.one_mul] at d0 d1 d2 d3 d4 d5 d6
        obtain ⟨q0, hq0⟩ : ∃ q0, shapeB L e0 dd = q0 := ⟨_, rfl⟩
        obtain ⟨q1, hq1⟩ : ∃ q1, shapeB L e1 dd = q1 := ⟨_, rfl⟩
        have HQ0 := Lib.hid hq0; have HQ1 := Lib.hid hq1; have HKD := Lib.hid hkids
        have HU1 := Lib.hid hu1; have HS1 := Lib.hid hs1; have HV1 := Lib.hid hv1; have HU0 := Lib.hid hu0; have HS0 := Lib.hid hs0; have HV0 := Lib.hid hv0
        obtain rfl : q = (q0 && q1) := by rw [← HQ.out, HSH.out, HBB.out, H2.out, hkids]; simp [hq0, hq1]
        clear hq0 hq1 hkids h0 h1 hu1 hs1 hv1 hu0 hs0 hv0 HQ HSH
        have hp0 : 0 < kids.length := by rw [H2.out]; omega
        have hp1 : 1 < kids.length := by rw [H2.out]; omega
        go_wp2_with (fail)
        refine (IH e0 _ _ _ W1 HU0.out ha0 HS0.out HV0.out).mono ?_
        rw [HQ0.out]
        rintro r W2 ⟨⟨n0, rfl, hf0, hn0⟩, hE2⟩
        replace d0 := hE2.keep d0; replace d1 := hE2.keep d1; replace d2 := hE2.keep d2; replace d3 := hE2.keep d3; replace d4 := hE2.keep d4; replace d5 := hE2.keep d5; replace d6 := hE2.keep d6
        have B2 := Lib.hid (hE2.blk B1.out); have E2 := Lib.hid (E1.out.trans hE2); have X2 := Lib.hid hE2
        have HN0 := Lib.hid hn0
        clear hE2 hn0 c0 c1 c2 c3 c4 c5 c6
        go_wp2_with (fail)
        refine (IH e1 _ _ _ W2 (HU1.out.ext X2.out) ha1 (HS1.out.ext X2.out) (HV1.out.ext X2.out)).mono ?_
        rw [HQ1.out]
        rintro r W3 ⟨⟨n1, rfl, hf1, hn1⟩, hE3⟩
        have B3 := Lib.hid (hE3.blk B2.out); have E3 := Lib.hid (E2.out.trans hE3)
        have hz1 := E1.out.size_le; have hz2 := E2.out.size_le
        have HNN : Hid ((q0 && q1) = true → NdR w.heap.size W3 (.iface 169 (.agg #[.int .i64 kind, n0, n1])) (.mk kind num (xs, k) arr subs kids)) := Lib.hid (fun h => by
          simp only [Bool.and_eq_true] at h
          exact HF.out trivial n0 n1 e0 e1 W3 HKD.out (((HN0.out h.1).weak hz1).ext hE3) ((hn1 h.2).weak hz2))
        clear hE3 hn1 d0 d1 d2 d3 d4 d5 d6 HN0
        obtain ⟨x0, -⟩ := blk7 B3.out
        have HIF : ∀ p : Value, Hid (Value.iface 169 p = .nilIface ∨ ∃ t x, Value.iface 169 p = .iface t x) := fun p => Lib.hid (.inr ⟨_, _, rfl⟩)
        cases q0 with
        | false =>
          rcases hf0 with rfl | ⟨t0, p0, rfl⟩
          · rcases hf1 with rfl | ⟨t1, p1, rfl⟩
            · go_wp2
              exact bodyPost_ret (v := .tuple #[.iface 169 (.agg #[.int .i64 kind, .nilIface, .nilIface]), .bool false]) (by simp [results, Try.results89, go_sem]) rfl ⟨⟨_, by first | rfl | rw [Bool.true_and] | simp, (HIF _).out, HNN.out⟩, E3.out⟩
            · go_wp2
              exact bodyPost_ret (v := .tuple #[.iface 169 (.agg #[.int .i64 kind, .nilIface, .iface t1 p1]), .bool false]) (by simp [results, Try.results89, go_sem]) rfl ⟨⟨_, by first | rfl | rw [Bool.true_and] | simp, (HIF _).out, HNN.out⟩, E3.out⟩
          · rcases hf1 with rfl | ⟨t1, p1, rfl⟩
            · go_wp2
              exact bodyPost_ret (v := .tuple #[.iface 169 (.agg #[.int .i64 kind, .iface t0 p0, .nilIface]), .bool false]) (by simp [results, Try.results89, go_sem]) rfl ⟨⟨_, by first | rfl | rw [Bool.true_and] | simp, (HIF _).out, HNN.out⟩, E3.out⟩
            · go_wp2
              exact bodyPost_ret (v := .tuple #[.iface 169 (.agg #[.int .i64 kind, .iface t0 p0, .iface t1 p1]), .bool false]) (by simp [results, Try.results89, go_sem]) rfl ⟨⟨_, by first | rfl | rw [Bool.true_and] | simp, (HIF _).out, HNN.out⟩, E3.out⟩
        | true =>
          rcases hf0 with rfl | ⟨t0, p0, rfl⟩
          · rcases hf1 with rfl | ⟨t1, p1, rfl⟩
            · go_wp2
              exact bodyPost_ret (v := .tuple #[.iface 169 (.agg #[.int .i64 kind, .nilIface, .nilIface]), .bool q1]) (by simp [results, Try.results89, go_sem]) rfl ⟨⟨_, by first | rfl | rw [Bool.true_and] | simp, (HIF _).out, HNN.out⟩, E3.out⟩
            · go_wp2
              exact bodyPost_ret (v := .tuple #[.iface 169 (.agg #[.int .i64 kind, .nilIface, .iface t1 p1]), .bool q1]) (by simp [results, Try.results89, go_sem]) rfl ⟨⟨_, by first | rfl | rw [Bool.true_and] | simp, (HIF _).out, HNN.out⟩, E3.out⟩
          · rcases hf1 with rfl | ⟨t1, p1, rfl⟩
            · go_wp2
              exact bodyPost_ret (v := .tuple #[.iface 169 (.agg #[.int .i64 kind, .iface t0 p0, .nilIface]), .bool q1]) (by simp [results, Try.results89, go_sem]) rfl ⟨⟨_, by first | rfl | rw [Bool.true_and] | simp, (HIF _).out, HNN.out⟩, E3.out⟩
            · go_wp2
              exact bodyPost_ret (v := .tuple #[.iface 169 (.agg #[.int .i64 kind, .iface t0 p0, .iface t1 p1]), .bool q1]) (by simp [results, Try.results89, go_sem]) rfl ⟨⟨_, by first | rfl | rw [Bool.true_and] | simp, (HIF _).out, HNN.out⟩, E3.out⟩
  · have hlb : ((kids.length : Int) != 2) = true := by simp; omega
    obtain rfl : q = false := by rw [← HQ.out, HSH.out, decide_eq_false h2]; rfl
    clear h2
    rcases hk with rfl | rfl | rfl
    · go_enter Try.func89, Try.ntmps89
      go_wp2
      exact bodyPost_ret (v := .tuple #[.nilIface, .bool false]) (by simp [results, Try.results89, go_sem]) rfl ⟨⟨_, rfl, .inl rfl, fun h => by cases h⟩, (Ext.refl w).alloc _⟩
    · go_enter Try.func89, Try.ntmps89
      go_wp2
      exact bodyPost_ret (v := .tuple #[.nilIface, .bool false]) (by simp [results, Try.results89, go_sem]) rfl ⟨⟨_, rfl, .inl rfl, fun h => by cases h⟩, (Ext.refl w).alloc _⟩
    · go_enter Try.func89, Try.ntmps89
      go_wp2
      exact bodyPost_ret (v := .tuple #[.nilIface, .bool false]) (by simp [results, Try.results89, go_sem]) rfl ⟨⟨_, rfl, .inl rfl, fun h => by cases h⟩, (Ext.refl w).alloc _⟩
end Go.Proofs.Ytccibfldadflkaa
