/- Comparison of a statement with a copy. No statement is proved here. -/
import Derived.Test.YtcpbfefgjpimiaaS3
import Derived.Test.YtcpbfefgjpimiaaN4
namespace Go.Proofs.Ytcpbfefgjpimiaa
open Go.RowKit

set_option maxHeartbeats 800000 in
theorem eqAccess_same (arr : ByteArray) (s t : Value) (subs : List Aff) (w : World) (hs : AffsAt w s subs) (ht : AffsAt w t subs) :
    Calls Try.prog 30 #[.agg #[.string arr, s], .agg #[.string arr, t]] w fun e w' => e = .returned (.bool true) ∧ Ext w w' := by
  obtain ⟨p, c, rfl, hm⟩ := hs.form
  obtain ⟨q, d, rfl, -⟩ := ht.form
  have HS := Lib.hid hs; have HT := Lib.hid ht; clear hs ht
  go_enter Try.func30, Try.ntmps30
  go_wp2_with (fail)
  refine (eqAffineS_any p _ c q _ d subs subs _ rfl rfl (HS.out.ext (((Ext.refl w).alloc _).alloc _)) (HT.out.ext (((Ext.refl w).alloc _).alloc _))).mono ?_
  rw [lEqB_self]
  rintro e W1 ⟨rfl, hE⟩
  have E1 := Lib.hid ((((Ext.refl w).alloc _).alloc _).trans hE)
  clear hE
  go_wp2
  go_ret
  exact ⟨rfl, E1.out⟩

/-- eqExpr says yes to two readings of the same node. -/
def EqE (w : World) (cs : List Value) (e : Ex) : Prop := ∀ (ds : List Value), ExR w ds e → ∀ (w' : World), Ext w w' → Calls Try.prog 31 #[.agg cs.toArray, .agg ds.toArray] w' fun r w2 => r = .returned (.bool true) ∧ Ext w' w2

set_option maxHeartbeats 1600000 in
theorem eqExprS_of (w0 : World) (p q : Option Addr) (n c d : Nat) (es : List Ex) (us vs : Nat → List Value) (hn : es.length = n) (hm : n ≤ 9223372036854775807)
    (hc : ∀ (i : Nat) (e : Ex), es[i]? = some e → ∃ b off, p = some ⟨b, off, none⟩ ∧ b < w0.heap.size ∧ ∀ (j : Nat) (v : Value), (us i)[j]? = some v → w0.cell? ⟨b, off + i * 7 + j, none⟩ = some v)
    (hd : ∀ (i : Nat) (e : Ex), es[i]? = some e → ∃ b off, q = some ⟨b, off, none⟩ ∧ b < w0.heap.size ∧ ∀ (j : Nat) (v : Value), (vs i)[j]? = some v → w0.cell? ⟨b, off + i * 7 + j, none⟩ = some v)
    (hk : ∀ (i : Nat) (e : Ex), es[i]? = some e → ExR w0 (us i) e) (hk' : ∀ (i : Nat) (e : Ex), es[i]? = some e → ExR w0 (vs i) e) (IH : ∀ (i : Nat) (e : Ex), es[i]? = some e → EqE w0 (us i) e) (w : World) (hE0 : Ext w0 w) :
    Calls Try.prog 59 #[.slice p n c, .slice q n d] w fun e w' => e = .returned (.bool true) ∧ Ext w w' := by
  have HC := Lib.hid hc; have HD := Lib.hid hd; have HK := Lib.hid hk; have HK' := Lib.hid hk'; have HI := Lib.hid IH; have HN := Lib.hid hn; have HE0 := Lib.hid hE0; clear hc hd hk hk' IH hn hE0
  go_enter Try.func59, Try.ntmps59
  go_wp2
  go_loopw [5] (fun i wr => ∃ k : Nat, k ≤ n ∧ i = .int .i64 k ∧ Ext w wr) (fun i _ => n - (intOf i).toNat)
  case atStart => exact ⟨0, by omega, rfl, Ext.refl w⟩
  case round =>
    obtain ⟨k, hk, rfl, hE⟩ := hrel
    by_cases hlt : k < n
    · obtain ⟨x, hx⟩ := get_some (xs := es) (k := k) (by rw [HN.out]; exact hlt)
      have E0 : Ext w0 wr := HE0.out.trans hE
      obtain ⟨b, off, rfl, hb, hcell⟩ := HC.out k x hx
      obtain ⟨b', off', rfl, hb', hcell'⟩ := HD.out k x hx
      have hi := HI.out k x hx (vs k) (HK'.out k x hx) wr.drew (E0.trans (Ext.refl wr).drew)
      obtain ⟨u, s, v, hcs, -, -, -, -⟩ := (HK.out k x hx).parts
      obtain ⟨u', s', v', hcs', -, -, -, -⟩ := (HK'.out k x hx).parts
      rw [hcs] at hcell hi
      rw [hcs'] at hcell' hi
      have c0 := E0.keep (hcell 0 _ rfl); have c1 := E0.keep (hcell 1 _ rfl); have c2 := E0.keep (hcell 2 _ rfl); have c3 := E0.keep (hcell 3 _ rfl); have c4 := E0.keep (hcell 4 _ rfl); have c5 := E0.keep (hcell 5 _ rfl); have c6 := E0.keep (hcell 6 _ rfl)
      have d0 := E0.keep (hcell' 0 _ rfl); have d1 := E0.keep (hcell' 1 _ rfl); have d2 := E0.keep (hcell' 2 _ rfl); have d3 := E0.keep (hcell' 3 _ rfl); have d4 := E0.keep (hcell' 4 _ rfl); have d5 := E0.keep (hcell' 5 _ rfl); have d6 := E0.keep (hcell' 6 _ rfl)
      rw [Nat.add_zero] at c0 d0
      have HI2 := Lib.hid hi; have HE := Lib.hid hE
      clear hx hi hcell hcell' E0 hcs hcs' hE
      go_wp2_with (fail)
      go_region_held3 (fun W => W.cell? ⟨b, off + k * 7, none⟩ = some (.int .i64 x.kind) ∧ W.cell? ⟨b, off + k * 7 + 1, none⟩ = some (.int .i64 x.num) ∧ W.cell? ⟨b, off + k * 7 + 2, none⟩ = some u ∧ W.cell? ⟨b, off + k * 7 + 3, none⟩ = some (.int .i64 x.ix.2) ∧ W.cell? ⟨b, off + k * 7 + 4, none⟩ = some (.string x.arr) ∧ W.cell? ⟨b, off + k * 7 + 5, none⟩ = some s ∧ W.cell? ⟨b, off + k * 7 + 6, none⟩ = some v ∧ W.cell? ⟨b', off' + k * 7, none⟩ = some (.int .i64 x.kind) ∧ W.cell? ⟨b', off' + k * 7 + 1, none⟩ = some (.int .i64 x.num) ∧ W.cell? ⟨b', off' + k * 7 + 2, none⟩ = some u' ∧ W.cell? ⟨b', off' + k * 7 + 3, none⟩ = some (.int .i64 x.ix.2) ∧ W.cell? ⟨b', off' + k * 7 + 4, none⟩ = some (.string x.arr) ∧ W.cell? ⟨b', off' + k * 7 + 5, none⟩ = some s' ∧ W.cell? ⟨b', off' + k * 7 + 6, none⟩ = some v')
        (first | exact ⟨c0, c1, c2, c3, c4, c5, c6, d0, d1, d2, d3, d4, d5, d6⟩ | exact ⟨g3.keep c0, g3.keep c1, g3.keep c2, g3.keep c3, g3.keep c4, g3.keep c5, g3.keep c6, g3.keep d0, g3.keep d1, g3.keep d2, g3.keep d3, g3.keep d4, g3.keep d5, g3.keep d6⟩ | fail)
        (first | (go_at_call 31; (with_reducible refine HI2.out.mono ?_); rintro e w3 ⟨rfl, hE3⟩; have g3 := (Ext.refl wr).drew.trans hE3) | fail)
      go_wp2
      go_roundw
      case rel => exact ⟨k + 1, by omega, by go_num, HE.out.trans g3⟩
      case measure => simp [intOf]; omega
    · go_wp2
      go_ret
      exact ⟨rfl, hE⟩

set_option maxHeartbeats 1600000 in
theorem eqExpr_same {w : World} {cs : List Value} {e : Ex} (h : ExR w cs e) : EqE w cs e := by
  induction h with
  | mk kind num k u s xs arr subs p cap kids us hu ha hs hl hc hk ih =>
    intro ds hds w' hE
    cases hds with
    | mk _ _ _ u' s' _ _ _ p' cap' _ us' hu' ha' hs' hl' hc' hk' =>
    obtain ⟨pu, cu, rfl, hmu, -⟩ := id hu
    obtain ⟨pu', cu', rfl, -, -⟩ := id hu'
    obtain ⟨ps, cs, rfl, hms⟩ := hs.form
    obtain ⟨ps', cs', rfl, -⟩ := hs'.form
    have HU := Lib.hid hu; have HU' := Lib.hid hu'; have HS := Lib.hid hs; have HS' := Lib.hid hs'; have HC := Lib.hid hc; have HC' := Lib.hid hc'; have HK := Lib.hid hk; have HK' := Lib.hid hk'; have HI := Lib.hid ih; have HE := Lib.hid hE
    clear hs hs' hc hc' hk hk' ih hu hu' hE
    go_enter Try.func31, Try.ntmps31
    go_wp2_with (fail)
    have EA : Ext w ((w'.alloc (.cells #[.int .i64 kind, .int .i64 num, .slice pu xs.length cu, .int .i64 k, .string arr, .slice ps subs.length cs, .slice p kids.length cap] 41)).alloc (.cells #[.int .i64 kind, .int .i64 num, .slice pu' xs.length cu', .int .i64 k, .string arr, .slice ps' subs.length cs', .slice p' kids.length cap'] 41)) := HE.out.trans (((Ext.refl w').alloc _).alloc _)
    refine (eqAffine_any _ _ xs xs k k _ (HU.out.ext EA) (HU'.out.ext EA)).mono ?_
    rw [affEqB_self]
    rintro e W1 ⟨rfl, hE1⟩
    have E1 : Hid (Ext w' W1) := Lib.hid ((((Ext.refl w').alloc _).alloc _).trans hE1)
    have BA := hE1.blk (g := w'.heap.size) (blk_old (blk_at rfl))
    have BB := hE1.blk (g := w'.heap.size + 1) (blk_at (by simp))
    obtain ⟨-, -, -, -, a4, a5, a6⟩ := blk7 BA
    obtain ⟨-, -, -, -, b4, b5, b6⟩ := blk7 BB
    have HBA := Lib.hid BA; have HBB := Lib.hid BB
    clear hE1 BA BB EA
    go_wp2_with (fail)
    refine (eqAccess_same arr _ _ subs _ (HS.out.ext (HE.out.trans E1.out)) (HS'.out.ext (HE.out.trans E1.out))).mono ?_
    rintro e W2 ⟨rfl, hE2⟩
    have E2 : Hid (Ext w' W2) := Lib.hid (E1.out.trans hE2)
    obtain ⟨-, -, -, -, -, -, c6⟩ := blk7 (hE2.blk HBA.out)
    obtain ⟨-, -, -, -, -, -, d6⟩ := blk7 (hE2.blk HBB.out)
    clear hE2 a4 a5 a6 b4 b5 b6 HBA HBB
    go_wp2_with (fail)
    refine (eqExprS_of w p p' _ cap cap' kids us us' rfl hl HC.out HC'.out HK.out HK'.out HI.out W2 (HE.out.trans E2.out)).mono ?_
    rintro e W3 ⟨rfl, hE3⟩
    have E3 : Hid (Ext w' W3) := Lib.hid (E2.out.trans hE3)
    clear hE3 c6 d6
    go_wp2
    go_ret
    exact ⟨rfl, E3.out⟩

set_option maxHeartbeats 1600000 in
theorem eqStmt_same (v v' : Value) (arr : ByteArray) (subs : List Aff) (e : Ex) (w : World) (hs : StR w v arr subs e) (ht : StR w v' arr subs e) :
    Calls Try.prog 11 #[v, v'] w fun r w' => r = .returned (.bool true) ∧ Ext w w' := by
  obtain ⟨q1, d1, q2, d2, q3, d3, q4, d4, rfl, ha, hs1, he⟩ := hs.parts
  obtain ⟨p1, c1, p2, c2, p3, c3, p4, c4, rfl, -, ht1, he'⟩ := ht.parts
  have HS := Lib.hid hs1; have HE := Lib.hid he; have HT := Lib.hid ht1; have HE' := Lib.hid he'; clear hs hs1 he ht ht1 he'
  go_enter Try.func11, Try.ntmps11
  go_wp2_with (fail)
  refine (eqAccess_same arr _ _ subs _ (HS.out.ext (((Ext.refl w).alloc _).alloc _)) (HT.out.ext (((Ext.refl w).alloc _).alloc _))).mono ?_
  rintro r W1 ⟨rfl, hE1⟩
  have E1 : Hid (Ext w W1) := Lib.hid ((((Ext.refl w).alloc _).alloc _).trans hE1)
  obtain ⟨-, -, x2, x3, x4, x5, x6, x7, x8⟩ := blk9 (hE1.blk (g := w.heap.size) (blk_old (blk_at rfl)))
  obtain ⟨-, -, y2, y3, y4, y5, y6, y7, y8⟩ := blk9 (hE1.blk (g := w.heap.size + 1) (blk_at (by simp)))
  clear hE1
  go_wp2_with (fail)
  refine (eqExpr_same HE.out _ HE'.out W1 E1.out).mono ?_
  rintro r W2 ⟨rfl, hE2⟩
  have E2 : Hid (Ext w W2) := Lib.hid (E1.out.trans hE2)
  clear hE2 x2 x3 x4 x5 x6 x7 x8 y2 y3 y4 y5 y6 y7 y8
  go_wp2
  go_ret
  exact ⟨rfl, E2.out⟩
end Go.Proofs.Ytcpbfefgjpimiaa
