/- The texts A2 A3, joined. No statement is proved here. -/
import Derived.Test.YtccibfldadflkaaQV39
/- Contracts of the laws' own helpers: copies, comparisons, marks. -/
namespace Go.Proofs.Ytccibfldadflkaa
open Go.RowKit

theorem IntsAt.get {w : World} {v : Value} {xs : List Int} (h : IntsAt w v xs) : ∃ p c, v = .slice p xs.length c ∧ xs.length ≤ 9223372036854775807 ∧ ∀ i x, xs[i]? = some x → ∃ b off, p = some ⟨b, off, none⟩ ∧ w.cell? ⟨b, off + i, none⟩ = some (.int .i64 x) ∧ b < w.heap.size := by
  obtain ⟨p, c, hv, hm, hc⟩ := h
  refine ⟨p, c, hv, hm, fun i x hx => ?_⟩
  obtain ⟨b, off, hp, hck⟩ := hc i x hx
  exact ⟨b, off, hp, hck, World.block_lt_of_cell? w _ hck⟩

theorem Ext.keep {w w' : World} {a : Addr} {v : Value} (h : Ext w w') (hc : w.cell? a = some v) : w'.cell? a = some v := (Below.cell h (World.block_lt_of_cell? w _ hc)).trans hc
theorem new0 (w : World) (v : Value) (vs : List Value) (t : TypeId) : (w.alloc (.cells (v :: vs).toArray t)).cell? ⟨w.heap.size, 0, none⟩ = some v := by simp [go_sem]
theorem IntsOwn.mk {B n : Nat} {w : World} {v : Value} {xs : List Int} (h : w.ownsRow B 3 1 v n (xs.map (Value.int .i64))) (hn : xs.length = n) : IntsOwn B w v xs := by
  unfold IntsOwn; rw [hn]; exact h

theorem ownsRow_weak {B B' : Nat} {w : World} {e : TypeId} {size : Nat} {v : Value} {n : Nat} {xs : List Value} (h : w.ownsRow B e size v n xs) (hB : B' ≤ B) : w.ownsRow B' e size v n xs := by
  refine ⟨h.1, ?_⟩
  rcases h.2 with hn | ⟨g, cap, cur, hv, hbg, r⟩
  · exact .inl hn
  · exact .inr ⟨g, cap, cur, hv, Nat.le_trans hB hbg, r⟩
theorem IntsOwn.weak {B B' : Nat} {w : World} {v : Value} {xs : List Int} (h : IntsOwn B w v xs) (hB : B' ≤ B) : IntsOwn B' w v xs := ownsRow_weak h hB
theorem IntsOwn.setOld {B : Nat} {w : World} {v : Value} {xs : List Int} (h : IntsOwn B w v xs) {p : Addr} (hp : p.block < B) (u : Value) : IntsOwn B (w.setCell p u) v xs := ownsRow_setCell_below h hp u

/-- Two lists are the same. -/
def eqB (xs ys : List Int) : Bool := decide (xs = ys)
theorem eqB_len {xs ys : List Int} (h : xs.length ≠ ys.length) : eqB xs ys = false := by
  unfold eqB; apply decide_eq_false; intro e; exact h (by rw [e])
theorem eqB_ne {xs ys : List Int} {k : Nat} {x y : Int} (hx : xs[k]? = some x) (hy : ys[k]? = some y) (h : x ≠ y) : eqB xs ys = false := by
  unfold eqB; apply decide_eq_false; intro e; rw [e, hy] at hx; exact h (Option.some.inj hx).symm
theorem take_eq_next {xs ys : List Int} {k : Nat} {x y : Int} (hx : xs[k]? = some x) (hy : ys[k]? = some y) (h : xs.take k = ys.take k) (e : x = y) : xs.take (k + 1) = ys.take (k + 1) := by
  rw [take_next hx, take_next hy, h, e]
theorem eqB_all {xs ys : List Int} {k : Nat} (hx : xs.length ≤ k) (hy : ys.length ≤ k) (h : xs.take k = ys.take k) : eqB xs ys = true := by
  rw [List.take_of_length_le hx, List.take_of_length_le hy] at h; simp [eqB, h]

set_option maxHeartbeats 800000 in
theorem slicesEqual_any (s t : Value) (xs ys : List Int) (w : World) (hs : IntsAt w s xs) (ht : IntsAt w t ys) :
    Calls Try.prog 126 #[s, t] w fun e w' => e = .returned (.bool (eqB xs ys)) ∧ Ext w w' := by
  obtain ⟨p, c, rfl, hm, hc⟩ := hs.get
  obtain ⟨q, d, rfl, hm2, hd⟩ := ht.get
  clear hs ht
  generalize hlen : xs.length = n at *
  have HL := Lib.hid hlen; clear hlen
  have HC := Lib.hid hc; clear hc
  have HD := Lib.hid hd; clear hd
  by_cases hne : ys.length = n
  · have HN := Lib.hid hne
    rw [hne] at hm2 ⊢
    clear hne
    go_enter Try.func126, Try.ntmps126
    go_wp2
    go_loopw [13] (fun i wr => ∃ k : Nat, k ≤ n ∧ i = .int .i64 k ∧ xs.take k = ys.take k ∧ Ext w wr) (fun i _ => n - (intOf i).toNat)
    case atStart => exact ⟨0, by omega, rfl, rfl, Ext.refl w⟩
    case round =>
      obtain ⟨k, hk, rfl, htk, hE⟩ := hrel
      have HT := Lib.hid htk; clear htk
      by_cases hlt : k < n
      · obtain ⟨x, hx⟩ := get_some (xs := xs) (k := k) (by rw [HL.out]; exact hlt)
        obtain ⟨y, hy⟩ := get_some (xs := ys) (k := k) (by rw [HN.out]; exact hlt)
        obtain ⟨b, off, rfl, hck, hbl⟩ := HC.out k x hx
        obtain ⟨b2, off2, rfl, hdk, hbl2⟩ := HD.out k y hy
        have hck' := (hE.cells.1 _ (off + k) hbl).trans hck
        have hdk' := (hE.cells.1 _ (off2 + k) hbl2).trans hdk
        have HX := Lib.hid hx; clear hx
        have HY := Lib.hid hy; clear hy
        clear hck hdk
        by_cases hxy : x = y
        · subst hxy
          go_wp2
          go_quiet (fail)
          go_wp2
          go_roundw
          case rel => exact ⟨k + 1, by omega, by go_num, take_eq_next HX.out HY.out HT.out rfl, hE.drewN _⟩
          case measure => simp [intOf]; omega
        · have hb : (x != y) = true := by simp [hxy]
          have HXY := Lib.hid hxy; clear hxy
          go_wp2
          go_quiet (fail)
          go_wp2
          go_ret
          exact ⟨ret_bool (eqB_ne HX.out HY.out HXY.out).symm, hE.drewN _⟩
      · go_wp2
        go_ret
        exact ⟨ret_bool (eqB_all (by rw [HL.out]; omega) (by rw [HN.out]; omega) HT.out).symm, hE⟩
  · have hb : ((n : Int) != ys.length) = true := by simp; omega
    have HN := Lib.hid hne; clear hne
    go_enter Try.func126, Try.ntmps126
    go_wp2
    go_ret
    exact ⟨ret_bool (eqB_len (by rw [HL.out]; exact fun e => HN.out e.symm)).symm, Ext.refl w⟩

end Go.Proofs.Ytccibfldadflkaa

/- Contracts: equality of affine expressions, marks. -/
namespace Go.Proofs.Ytccibfldadflkaa
open Go.RowKit

/-- Two affine expressions are the same. -/
def affEqB (xs : List Int) (c : Int) (ys : List Int) (d : Int) : Bool := eqB xs ys && decide (c = d)

set_option maxHeartbeats 800000 in
theorem AffineSame_any (s t : Value) (xs ys : List Int) (c d : Int) (w : World) (hs : IntsAt w s xs) (ht : IntsAt w t ys) :
    Calls Try.prog 121 #[.agg #[s, .int .i64 c], .agg #[t, .int .i64 d]] w fun e w' => e = .returned (.bool (affEqB xs c ys d)) ∧ Ext w w' := by
  obtain ⟨p, k, rfl, hm, hc⟩ := id hs
  obtain ⟨q, l, rfl, hm2, hd⟩ := id ht
  clear hc hd
  have HS := Lib.hid hs; clear hs
  have HT := Lib.hid ht; clear ht
  by_cases hcd : c = d
  · subst hcd
    go_enter Try.func121, Try.ntmps121
    go_wp2_with (go_at_call 126; refine (slicesEqual_any _ _ xs ys _ (HS.out.ext (((Ext.refl w).alloc _).alloc _)) (HT.out.ext (((Ext.refl w).alloc _).alloc _))).mono ?_; rintro e w1 ⟨rfl, hE⟩; have HE := Lib.hid hE; clear hE)
    go_ret
    exact ⟨ret_bool (by simp [affEqB]), (((Ext.refl w).alloc _).alloc _).trans HE.out⟩
  · have hb : (c == d) = false := by simp [hcd]
    have HCD := Lib.hid hcd; clear hcd
    go_enter Try.func121, Try.ntmps121
    go_wp2
    go_ret
    exact ⟨ret_bool (by simp [affEqB, HCD.out]), (((Ext.refl w).alloc _).alloc _)⟩


theorem grownBy_trans {a b c : World} {r : Option Nat} (h : a.grownBy b r) (k : b.grownBy c r) : a.grownBy c r :=
  ⟨k.os.trans h.os, k.tape.trans h.tape, k.output.trans h.output, Nat.le_trans h.size k.size, fun i hi hr => (k.block i (Nat.lt_of_lt_of_le hi h.size) hr).trans (h.block i hi hr)⟩
theorem Ext.grownBy {a b : World} (h : Ext a b) (r : Option Nat) : a.grownBy b r := ⟨h.os, h.tape, h.output, h.size, fun i hi _ => h.block i hi⟩

end Go.Proofs.Ytccibfldadflkaa
