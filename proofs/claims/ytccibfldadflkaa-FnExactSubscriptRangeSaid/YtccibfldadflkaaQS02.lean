/- The texts A2, joined. No statement is proved here. -/
import Derived.Test.YtccibfldadflkaaQS01
/- Contracts of the laws' own helpers: copies, comparisons, marks. -/
namespace Go.Proofs.Ytccibfldadflkaa
open Go.RowKit

theorem IntsAt.get {w : World} {v : Value} {xs : List Int} (h : IntsAt w v xs) : ∃ p c, v = .slice p xs.length c ∧ xs.length ≤ 9223372036854775807 ∧ ∀ i x, xs[i]? = some x → ∃ b off, p = some ⟨b, off, none⟩ ∧ w.cell? ⟨b, off + i, none⟩ = some (.int .i64 x) ∧ b < w.heap.size := by
  obtain ⟨p, c, hv, hm, hc⟩ := h
  refine ⟨p, c, hv, hm, fun i x hx => ?_⟩
  obtain ⟨b, off, hp, hck⟩ := hc i x hx
  exact ⟨b, off, hp, hck, World.block_lt_of_cell? w _ hck⟩

theorem Ext.keep {w w' : World} {a : Addr} {v : Value} (h : Ext w w') (hc : w.cell? a = some v) : w'.cell? a = some v := (Below.cell h (World.block_lt_of_cell? w _ hc)).trans hc
theorem new0 (w : World) (v : Value) (vs : List Value) (t : TypeId) : (w.alloc (.cells (v :: vs).toArray t)).cell? ⟨w.heap.size, 0, none⟩ = some v := by simp [go_sem]
theorem new1 (w : World) (v0 v : Value) (vs : List Value) (t : TypeId) : (w.alloc (.cells (v0 :: v :: vs).toArray t)).cell? ⟨w.heap.size, 1, none⟩ = some v := by simp [go_sem]

theorem set_next (xs : List Int) (n k : Nat) (x : Int) (hx : xs[k]? = some x) (hn : xs.length = n) :
    ((xs.take k).map (Value.int .i64) ++ List.replicate (n - k) (Value.int .i64 0)).set k (.int .i64 x) = (xs.take (k + 1)).map (Value.int .i64) ++ List.replicate (n - (k + 1)) (Value.int .i64 0) := by
  have hk : k < xs.length := by
    rcases Nat.lt_or_ge k xs.length with h | h
    · exact h
    · rw [List.getElem?_eq_none h] at hx; cases hx
  rw [take_next hx]
  have e : n - k = (n - (k + 1)) + 1 := by omega
  rw [e, List.replicate_succ]
  have hl : k = ((xs.take k).map (Value.int .i64)).length := by simp; omega
  conv => lhs; rw [hl]
  simp [Nat.min_eq_left (Nat.le_of_lt hk)]

theorem get_rest {α : Type} (A : List α) (z : α) (n k : Nat) (h : A.length = k) (hk : k < n) : (A ++ List.replicate (n - k) z)[k]? = some z := by
  rw [List.getElem?_append_right (by omega), h, Nat.sub_self, List.getElem?_replicate, if_pos (by omega)]

theorem IntsOwn.mk {B n : Nat} {w : World} {v : Value} {xs : List Int} (h : w.ownsRow B 3 1 v n (xs.map (Value.int .i64))) (hn : xs.length = n) : IntsOwn B w v xs := by
  unfold IntsOwn; rw [hn]; exact h

theorem ownsRow_weak {B B' : Nat} {w : World} {e : TypeId} {size : Nat} {v : Value} {n : Nat} {xs : List Value} (h : w.ownsRow B e size v n xs) (hB : B' ≤ B) : w.ownsRow B' e size v n xs := by
  refine ⟨h.1, ?_⟩
  rcases h.2 with hn | ⟨g, cap, cur, hv, hbg, r⟩
  · exact .inl hn
  · exact .inr ⟨g, cap, cur, hv, Nat.le_trans hB hbg, r⟩
theorem IntsOwn.weak {B B' : Nat} {w : World} {v : Value} {xs : List Int} (h : IntsOwn B w v xs) (hB : B' ≤ B) : IntsOwn B' w v xs := ownsRow_weak h hB
theorem IntsOwn.setOld {B : Nat} {w : World} {v : Value} {xs : List Int} (h : IntsOwn B w v xs) {p : Addr} (hp : p.block < B) (u : Value) : IntsOwn B (w.setCell p u) v xs := ownsRow_setCell_below h hp u

set_option maxHeartbeats 800000 in
theorem toIntS_any (s : Value) (xs : List Int) (w : World) (hs : IntsAt w s xs) (hn : xs.length ≤ 1048576) :
    Calls Try.prog 8 #[s] w fun e w' => ∃ p c, e = .returned (.slice p xs.length c) ∧ IntsOwn w.heap.size w' (.slice p xs.length c) xs ∧ Ext w w' := by
  obtain ⟨p, c, rfl, hm, hc⟩ := hs.get
  clear hs
  obtain ⟨i0, hi, hz0, hz1, hz2⟩ := info_parts infoInt
  generalize hlen : xs.length = n at *
  have HL := Lib.hid hlen; clear hlen
  have HC := Lib.hid hc; clear hc
  go_enter Try.func8, Try.ntmps8
  go_wp2_with (at_make; refine wpList_make_full _ rfl _ _ 22 rfl w.heap.size 3 i0 (.int .i64 0) 1 Try.underlying22 hi hz0 hz1 _ _ _ _ n rfl rfl rfl rfl ?b2 ?b3 (Nat.le_refl _) ?_)
  case b2 => rw [hz2]; omega
  case b3 => unfold maxLen; omega
  intro w0 hown0 hgrow0
  rw [toList_madeCells_one] at hown0
  have HO := Lib.hid hown0; clear hown0
  have HG := Lib.hid hgrow0; clear hgrow0
  clear hi hz0 hz1 hz2
  go_wp2
  go_loopw [4] (fun i wr => ∃ k : Nat, k ≤ n ∧ i = .int .i64 k ∧ wr.ownsRow w.heap.size 3 1 (.slice (some ⟨w.heap.size, 0, none⟩) n n) n ((xs.take k).map (Value.int .i64) ++ List.replicate (n - k) (Value.int .i64 0)) ∧ Ext w wr) (fun i _ => n - (intOf i).toNat)
  case atStart => exact ⟨0, by omega, rfl, by simpa using HO.out, (Ext.refl w).grown HG.out (fun k h => by cases h)⟩
  case round =>
    obtain ⟨k, hk, rfl, hown, hE⟩ := hrel
    by_cases hlt : k < n
    · obtain ⟨x, hx⟩ := get_some (xs := xs) (k := k) (by rw [HL.out]; exact hlt)
      obtain ⟨b, off, rfl, hck, hbl⟩ := HC.out k x hx
      have hck' := (hE.cells.1 _ (off + k) hbl).trans hck
      have hfr := hown.frozenAt k
      have hcc : wr.cell? ⟨w.heap.size, k, none⟩ = some (.int .i64 0) := by
        rw [hown.cellAt k (by omega), get_rest _ _ n k (by rw [List.length_map, List.length_take, HL.out]; omega) hlt]
      have hst := (hown.stored k (.int .i64 x)).1
      rw [set_next xs n k x hx HL.out] at hst
      have HS := Lib.hid hst; clear hst
      have HX := Lib.hid hx; clear hx
      have HOw := Lib.hid hown; clear hown
      clear hck
      go_wp2
      go_roundw
      case rel => exact ⟨k + 1, by omega, by go_num, HS.out, hE.setCell (Nat.le_refl _) _⟩
      case measure => simp [intOf]; omega
    · go_wp2
      go_ret
      have e : k = n := by omega
      subst e
      rw [List.take_of_length_le (by rw [HL.out]; omega), Nat.sub_self, List.replicate_zero, List.append_nil] at hown
      exact ⟨_, _, rfl, IntsOwn.mk hown HL.out, hE⟩

set_option maxHeartbeats 800000 in
theorem toAffine_any (s : Value) (xs : List Int) (c : Int) (w : World) (hs : IntsAt w s xs) (hn : xs.length ≤ 1048576) :
    Calls Try.prog 15 #[.agg #[s, .int .i64 c]] w fun e w' => ∃ p cc, e = .returned (.agg #[.slice p xs.length cc, .int .i64 c]) ∧ IntsOwn w.heap.size w' (.slice p xs.length cc) xs ∧ Ext w w' := by
  have HS := Lib.hid hs; clear hs
  obtain ⟨p, cc, rfl, hm, hc⟩ := HS.out
  clear hc
  go_enter Try.func15, Try.ntmps15
  go_wp2_with (go_at_call 8; refine (toIntS_any _ xs _ (HS.out.ext ((((Ext.refl w).alloc _).alloc _).alloc _)) hn).mono ?_; rintro e w1 ⟨p1, c1, rfl, hv, hE⟩; obtain ⟨hc1, hf1⟩ := hE.cells; have hsz := hE.size_le; have HV := Lib.hid (hv.weak (B' := w.heap.size + 3) (by simp)); have HE := Lib.hid hE; clear hv hE)
  refine bodyPost_ret (v := .agg #[.slice p1 xs.length c1, .int .i64 c]) (by simp [results, Try.results15, go_sem, hc1]) rfl ⟨_, _, rfl, ?_, ?_⟩
  · refine IntsOwn.weak (B := w.heap.size + 3) ?_ (by omega)
    repeat (refine IntsOwn.setOld ?_ (by simp <;> omega) _)
    exact HV.out
  · repeat (refine Ext.setCell ?_ (by simp <;> omega) _)
    exact (((Ext.refl w).alloc _).alloc _).alloc _ |>.trans HE.out

/-- Two lists are the same. -/
def eqB (xs ys : List Int) : Bool := decide (xs = ys)
theorem eqB_len {xs ys : List Int} (h : xs.length ≠ ys.length) : eqB xs ys = false := by
  unfold eqB; apply decide_eq_false; intro e; exact h (by rw [e])
theorem eqB_ne {xs ys : List Int} {k : Nat} {x y : Int} (hx : xs[k]? = some x) (hy : ys[k]? = some y) (h : x ≠ y) : eqB xs ys = false := by
  unfold eqB; apply decide_eq_false; intro e; rw [e, hy] at hx; exact h (Option.some.inj hx).symm
theorem take_eq_next {xs ys : List Int} {k : Nat} {x y : Int} (hx : xs[k]? = some x) (hy : ys[k]? = some y) (h : xs.take k = ys.take k) (e : x = y) : xs.take (k + 1) = ys.take (k + 1) := by
  rw [take_next hx, take_next hy, h, e]
theorem eqB_all {xs ys : List Int} {k : Nat} (hx : xs.length ≤ k) (hy : ys.length ≤ k) (h : xs.take k = ys.take k) : eqB xs ys = true := by
  rw [List.take_of_length_le hx, List.take_of_length_le hy] at h; simp [eqB, h]

set_option maxHeartbeats 800000 in
theorem eqIntS_any (s t : Value) (xs ys : List Int) (w : World) (hs : IntsAt w s xs) (ht : IntsAt w t ys) :
    Calls Try.prog 10 #[s, t] w fun e w' => e = .returned (.bool (eqB xs ys)) ∧ Ext w w' := by
  obtain ⟨p, c, rfl, hm, hc⟩ := hs.get
  obtain ⟨q, d, rfl, hm2, hd⟩ := ht.get
  clear hs ht
  generalize hlen : xs.length = n at *
  have HL := Lib.hid hlen; clear hlen
  have HC := Lib.hid hc; clear hc
  have HD := Lib.hid hd; clear hd
  by_cases hne : ys.length = n
  · have HN := Lib.hid hne
    rw [hne] at hm2 ⊢
    clear hne
    go_enter Try.func10, Try.ntmps10
    go_wp2
    go_loopw [5] (fun i wr => ∃ k : Nat, k ≤ n ∧ i = .int .i64 k ∧ xs.take k = ys.take k ∧ Ext w wr) (fun i _ => n - (intOf i).toNat)
    case atStart => exact ⟨0, by omega, rfl, rfl, Ext.refl w⟩
    case round =>
      obtain ⟨k, hk, rfl, htk, hE⟩ := hrel
      have HT := Lib.hid htk; clear htk
      by_cases hlt : k < n
      · obtain ⟨x, hx⟩ := get_some (xs := xs) (k := k) (by rw [HL.out]; exact hlt)
        obtain ⟨y, hy⟩ := get_some (xs := ys) (k := k) (by rw [HN.out]; exact hlt)
        obtain ⟨b, off, rfl, hck, hbl⟩ := HC.out k x hx
        obtain ⟨b2, off2, rfl, hdk, hbl2⟩ := HD.out k y hy
        have hck' := (hE.cells.1 _ (off + k) hbl).trans hck
        have hdk' := (hE.cells.1 _ (off2 + k) hbl2).trans hdk
        have HX := Lib.hid hx; clear hx
        have HY := Lib.hid hy; clear hy
        clear hck hdk
        by_cases hxy : x = y
        · subst hxy
          go_wp2
          go_quiet (fail)
          go_wp2
          go_roundw
          case rel => exact ⟨k + 1, by omega, by go_num, take_eq_next HX.out HY.out HT.out rfl, hE.drewN _⟩
          case measure => simp [intOf]; omega
        · have hb : (x != y) = true := by simp [hxy]
          have HXY := Lib.hid hxy; clear hxy
          go_wp2
          go_quiet (fail)
          go_wp2
          go_ret
          exact ⟨ret_bool (eqB_ne HX.out HY.out HXY.out).symm, hE.drewN _⟩
      · go_wp2
        go_ret
        exact ⟨ret_bool (eqB_all (by rw [HL.out]; omega) (by rw [HN.out]; omega) HT.out).symm, hE⟩
  · have hb : ((n : Int) != ys.length) = true := by simp; omega
    have HN := Lib.hid hne; clear hne
    go_enter Try.func10, Try.ntmps10
    go_wp2
    go_ret
    exact ⟨ret_bool (eqB_len (by rw [HL.out]; exact fun e => HN.out e.symm)).symm, Ext.refl w⟩

end Go.Proofs.Ytccibfldadflkaa
