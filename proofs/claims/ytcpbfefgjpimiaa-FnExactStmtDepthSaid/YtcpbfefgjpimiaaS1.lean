/- Sizes of statements. No statement is proved here. -/
import Derived.Test.YtcpbfefgjpimiaaS0
import Derived.Test.YtcpbfefgjpimiaaN1
namespace Go.Proofs.Ytcpbfefgjpimiaa
open Go.RowKit

/-- A node that is small enough to be copied. -/
inductive SmallE : Ex → Prop
  | mk (kind num : Int) (ix : Aff) (arr : ByteArray) (subs : List Aff) (kids : List Ex) (hx : ix.1.length ≤ 1048576) (ha : arr.size ≤ 1048576) (hs : SmallAs subs) (hl : kids.length ≤ 1048576) (hk : ∀ e ∈ kids, SmallE e) : SmallE (.mk kind num ix arr subs kids)
theorem blk7 {W : World} {g : Nat} {a0 a1 a2 a3 a4 a5 a6 : Value} {t : TypeId} (h : W.heap[g]? = some (.cells #[a0, a1, a2, a3, a4, a5, a6] t (0, 0))) :
    W.cell? ⟨g, 0, none⟩ = some a0 ∧ W.cell? ⟨g, 1, none⟩ = some a1 ∧ W.cell? ⟨g, 2, none⟩ = some a2 ∧ W.cell? ⟨g, 3, none⟩ = some a3 ∧ W.cell? ⟨g, 4, none⟩ = some a4 ∧ W.cell? ⟨g, 5, none⟩ = some a5 ∧ W.cell? ⟨g, 6, none⟩ = some a6 := by
  simp [World.cell?, h]

set_option maxHeartbeats 800000 in
theorem szAccess_any (arr : ByteArray) (s : Value) (subs : List Aff) (left : Int) (w : World) (ha : arr.size ≤ 9223372036854775807) (hs : AffsAt w s subs) (h0 : 0 ≤ left) (h1 : left ≤ 1048576) :
    Calls Try.prog 22 #[.agg #[.string arr, s], .int .i64 left] w fun e w' => (∃ z : Int, e = .returned (.int .i64 z) ∧ (z = -1 ∨ (0 ≤ z ∧ z ≤ 1048576 ∧ arr.size ≤ 1048576 ∧ SmallAs subs))) ∧ Ext w w' := by
  obtain ⟨p, c, rfl, hm⟩ := hs.form
  have HS := Lib.hid hs; clear hs
  by_cases hn : left - arr.size < 0
  · go_enter Try.func22, Try.ntmps22
    go_wp2_with (fail)
    go_ret
    exact ⟨⟨-1, rfl, .inl rfl⟩, (Ext.refl w).alloc _⟩
  · go_enter Try.func22, Try.ntmps22
    go_wp2_with (fail)
    refine (szAffineS_any p _ c subs (left - arr.size) _ rfl (HS.out.ext ((Ext.refl w).alloc _)) (by omega) (by omega)).mono ?_
    rintro e W1 ⟨⟨z, rfl, hz⟩, hE⟩
    have E1 : Hid (Ext w W1) := Lib.hid (((Ext.refl w).alloc _).trans hE)
    clear hE
    rcases hz with rfl | ⟨z0, z1, hz⟩
    · go_wp2_with (fail)
      go_ret
      exact ⟨⟨-1, rfl, .inl rfl⟩, E1.out⟩
    · have HZ := Lib.hid hz; clear hz
      go_wp2_with (fail)
      go_ret
      exact ⟨⟨z, rfl, .inr ⟨z0, z1, by omega, HZ.out⟩⟩, E1.out⟩

/-- What szExpr does with a node. -/
def SzE (w : World) (cs : List Value) (e : Ex) : Prop := ∀ (w' : World), Ext w w' → ∀ (left : Int), 0 ≤ left → left ≤ 1048576 →
  Calls Try.prog 23 #[.agg cs.toArray, .int .i64 left] w' fun r w2 => (∃ z : Int, r = .returned (.int .i64 z) ∧ (z = -1 ∨ (0 ≤ z ∧ z ≤ 1048576 ∧ SmallE e))) ∧ Ext w' w2

set_option maxHeartbeats 800000 in
theorem szExprS_of (w0 : World) (p : Option Addr) (n c : Nat) (es : List Ex) (us : Nat → List Value) (hn : es.length = n) (hm : n ≤ 9223372036854775807)
    (hc : ∀ (i : Nat) (e : Ex), es[i]? = some e → ∃ b off, p = some ⟨b, off, none⟩ ∧ b < w0.heap.size ∧ ∀ (j : Nat) (v : Value), (us i)[j]? = some v → w0.cell? ⟨b, off + i * 7 + j, none⟩ = some v)
    (hk : ∀ (i : Nat) (e : Ex), es[i]? = some e → ExR w0 (us i) e) (IH : ∀ (i : Nat) (e : Ex), es[i]? = some e → SzE w0 (us i) e) (w : World) (hE0 : Ext w0 w) (left : Int) (h0 : 0 ≤ left) (h1 : left ≤ 1048576) :
    Calls Try.prog 46 #[.slice p n c, .int .i64 left] w fun e w' => (∃ z : Int, e = .returned (.int .i64 z) ∧ (z = -1 ∨ (0 ≤ z ∧ z ≤ 1048576 ∧ n ≤ 1048576 ∧ ∀ e ∈ es, SmallE e))) ∧ Ext w w' := by
  have HC := Lib.hid hc; have HK := Lib.hid hk; have HI := Lib.hid IH; have HN := Lib.hid hn; have HE0 := Lib.hid hE0; clear hc hk IH hn hE0
  by_cases hsm : left - n < 0
  · go_enter Try.func46, Try.ntmps46
    go_wp2
    go_ret
    exact ⟨⟨-1, rfl, .inl rfl⟩, Ext.refl w⟩
  · go_enter Try.func46, Try.ntmps46
    go_wp2
    go_loopw [1, 5] (fun l i wr => ∃ k : Nat, k ≤ n ∧ i = .int .i64 k ∧ (∃ z : Int, l = .int .i64 z ∧ 0 ≤ z ∧ z ≤ 1048576) ∧ (∀ a ∈ es.take k, SmallE a) ∧ Ext w wr) (fun _ i _ => n - (intOf i).toNat)
    case atStart => exact ⟨0, by omega, rfl, ⟨_, rfl, by omega, by omega⟩, by simp, Ext.refl w⟩
    case round =>
      obtain ⟨k, hk, rfl, ⟨z, rfl, hz0, hz1⟩, hall, hE⟩ := hrel
      have HA := Lib.hid hall; clear hall
      by_cases hlt : k < n
      · obtain ⟨x, hx⟩ := get_some (xs := es) (k := k) (by rw [HN.out]; exact hlt)
        have E0 : Ext w0 wr := HE0.out.trans hE
        obtain ⟨b, off, rfl, hb, hcell⟩ := HC.out k x hx
        have hi := HI.out k x hx wr E0 z hz0 hz1
        obtain ⟨u, s, v, hcs, -, -, -, -⟩ := (HK.out k x hx).parts
        rw [hcs] at hcell hi
        have c0 := E0.keep (hcell 0 _ rfl); have c1 := E0.keep (hcell 1 _ rfl); have c2 := E0.keep (hcell 2 _ rfl); have c3 := E0.keep (hcell 3 _ rfl); have c4 := E0.keep (hcell 4 _ rfl); have c5 := E0.keep (hcell 5 _ rfl); have c6 := E0.keep (hcell 6 _ rfl)
        rw [Nat.add_zero] at c0
        have HX := Lib.hid hx; have HI2 := Lib.hid hi
        clear hx hi hcell E0 hcs
        go_wp2_with (fail)
        refine HI2.out.mono ?_
        rintro e w' ⟨⟨y, rfl, hy⟩, hE2⟩
        rcases hy with rfl | ⟨y0, y1, hy⟩
        · go_wp2_with (fail)
          go_ret
          exact ⟨⟨-1, rfl, .inl rfl⟩, hE.trans hE2⟩
        · have HY := Lib.hid hy; clear hy
          go_wp2_with (fail)
          go_roundw
          case rel => exact ⟨k + 1, by omega, by go_num, ⟨_, rfl, y0, y1⟩, mem_take_next HX.out HA.out HY.out, hE.trans hE2⟩
          case measure => simp [intOf]; omega
      · have e : k = n := by omega
        subst e
        go_wp2
        go_ret
        refine ⟨⟨z, rfl, .inr ⟨hz0, hz1, by omega, ?_⟩⟩, hE⟩
        have h := HA.out
        rwa [List.take_of_length_le (by rw [HN.out]; omega)] at h

set_option maxHeartbeats 1600000 in
theorem szExpr_any {w : World} {cs : List Value} {e : Ex} (h : ExR w cs e) : SzE w cs e := by
  induction h with
  | mk kind num k u s xs arr subs p cap kids us hu ha hs hl hc hk ih =>
    intro w' hE left h0 h1
    obtain ⟨pu, cu, rfl, hmu, -⟩ := id hu
    obtain ⟨ps, cs, rfl, hms⟩ := hs.form
    have HS := Lib.hid hs; have HC := Lib.hid hc; have HK := Lib.hid hk; have HI := Lib.hid ih; have HE := Lib.hid hE
    clear hs hc hk ih hu hE
    have hb : -1 ≤ szI left xs.length ∧ szI left xs.length ≤ 1048576 := by unfold szI; split <;> omega
    have hneg : szI left xs.length < 0 → szI left xs.length = -1 := by unfold szI; split <;> omega
    have hpos : ¬ szI left xs.length < 0 → 0 ≤ szI left xs.length ∧ xs.length ≤ 1048576 := by unfold szI; split <;> omega
    obtain ⟨l2, hl2⟩ : ∃ l2, szI left xs.length = l2 := ⟨_, rfl⟩
    rw [hl2] at hb hneg hpos
    have HL2 := Lib.hid hl2; have HP := Lib.hid hpos; have HNG := Lib.hid hneg
    clear hl2 hpos hneg
    go_enter Try.func23, Try.ntmps23
    go_wp2_with (fail)
    refine (szAffine_any pu _ cu k left _ hmu h0 h1).mono ?_
    rw [HL2.out]
    rintro e W1 ⟨rfl, hE1⟩
    have E1 : Hid (Ext w' W1) := Lib.hid (((Ext.refl w').alloc _).trans hE1)
    obtain ⟨-, -, -, -, c4, c5, c6⟩ := blk7 (hE1.blk (g := w'.heap.size) (blk_at rfl))
    have B1 := Lib.hid (hE1.blk (g := w'.heap.size) (blk_at rfl))
    clear hE1
    by_cases hn2 : l2 < 0
    · have hd : decide (l2 < 0) = true := by simpa using hn2
      go_wp2_with (fail)
      go_ret
      exact ⟨⟨-1, rfl, .inl rfl⟩, E1.out⟩
    · have hd : decide (l2 < 0) = false := by simpa using hn2
      obtain ⟨hl0, hxl⟩ := HP.out (by omega)
      go_wp2_with (fail)
      refine (szAccess_any arr _ subs l2 _ ha (HS.out.ext (HE.out.trans E1.out)) hl0 hb.2).mono ?_
      rintro e W2 ⟨⟨z, rfl, hz⟩, hE2⟩
      have E2 : Hid (Ext w' W2) := Lib.hid (E1.out.trans hE2)
      obtain ⟨-, -, -, -, -, -, c6⟩ := blk7 (hE2.blk B1.out)
      clear hE2 c4 c5
      rcases hz with rfl | ⟨z0, z1, hz, hz2⟩
      · go_wp2_with (fail)
        go_ret
        exact ⟨⟨-1, rfl, .inl rfl⟩, E2.out⟩
      · have HZ := Lib.hid hz; have HZ2 := Lib.hid hz2; clear hz hz2
        go_wp2_with (fail)
        refine (szExprS_of w p _ cap kids us rfl hl HC.out HK.out HI.out W2 (HE.out.trans E2.out) z z0 z1).mono ?_
        rintro e W3 ⟨⟨y, rfl, hy⟩, hE3⟩
        have E3 : Hid (Ext w' W3) := Lib.hid (E2.out.trans hE3)
        clear hE3
        rcases hy with rfl | ⟨y0, y1, hy, hy2⟩
        · go_wp2_with (fail)
          go_ret
          exact ⟨⟨-1, rfl, .inl rfl⟩, E3.out⟩
        · have HY := Lib.hid hy; have HY2 := Lib.hid hy2; clear hy hy2
          go_wp2_with (fail)
          go_ret
          exact ⟨⟨y, rfl, .inr ⟨y0, y1, .mk kind num (xs, k) arr subs kids hxl HZ.out HZ2.out HY.out HY2.out⟩⟩, E3.out⟩
end Go.Proofs.Ytcpbfefgjpimiaa
