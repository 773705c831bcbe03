/- The texts A10, joined. No statement is proved here. -/
import Derived.Test.YtccibfldadflkaaQV29
/- Contracts: the variables as expressions. -/
namespace Go.Proofs.Ytccibfldadflkaa
open Go.RowKit

theorem IntsOwn.opened {B n c : Nat} {w : World} {p : Option Addr} {xs : List Int} (h : IntsOwn B w (.slice p n c) xs) (hl : xs.length = n) (h0 : 0 < n) :
    ∃ g, p = some ⟨g, 0, none⟩ ∧ B ≤ g ∧ g < w.heap.size ∧ (∀ i x, xs[i]? = some x → w.cell? ⟨g, i, none⟩ = some (.int .i64 x)) ∧ (∀ i, w.frozen? ⟨g, i, none⟩ = false) ∧
      (∀ i u, IntsOwn B (w.setCell ⟨g, i, none⟩ (.int .i64 u)) (.slice p n c) (xs.set i u)) := by
  have h' : w.ownsRow B 3 1 (.slice p n c) n (xs.map (Value.int .i64)) := by unfold IntsOwn at h; rwa [hl] at h
  obtain ⟨g, rfl⟩ : ∃ g, p = some ⟨g, 0, none⟩ := by
    rcases h'.2 with ⟨_, hz⟩ | ⟨g, cap, cur, hv, _⟩
    · omega
    · simp only [Value.slice.injEq] at hv; exact ⟨g, hv.1⟩
  have hlt := h'.lt g rfl
  refine ⟨g, rfl, hlt.1, hlt.2, ?_, h'.frozenAt, ?_⟩
  · intro i x hx
    have hi : i < n := by
      rcases Nat.lt_or_ge i n with h | h
      · exact h
      · rw [List.getElem?_eq_none (by omega)] at hx; cases hx
    rw [h'.cellAt i (by omega), List.getElem?_map, hx]; rfl
  · intro i u
    have := (h'.stored i (.int .i64 u)).1
    rw [← List.map_set] at this
    exact IntsOwn.mk this (by rw [List.length_set]; exact hl)

set_option maxHeartbeats 1000000 in
theorem l1Zero_any (w : World) : Calls Try.prog 85 #[] w fun e w' => ∃ p c, e = .returned (.agg #[.slice p 4 c, .int .i64 0]) ∧ IntsOwn w.heap.size w' (.slice p 4 c) [0, 0, 0, 0] ∧ Ext w w' := by
  go_enter Try.func85, Try.ntmps85
  go_wp2
  refine bodyPost_ret (v := .agg #[.slice (some ⟨w.heap.size + 1, 0, none⟩) 4 4, .int .i64 0]) (by simp [results, Try.results85, go_sem]) rfl ⟨_, _, rfl, ?_, ((Ext.refl w).alloc _).alloc _⟩
  have h := World.ownsRow_lit (base := w.heap.size) (e := 3) (size := 1) (w.alloc (.cells #[.slice (some ⟨w.heap.size + 1, 0, none⟩) 4 4, .int .i64 0] 36)) #[.int .i64 0, .int .i64 0, .int .i64 0, .int .i64 0] 4 (by simp) (by unfold maxLen; omega) rfl
  simpa [IntsOwn] using h

def unitL (v : Int) : List Int := [0, 0, 0, 0].set v.toNat 1

set_option maxHeartbeats 1000000 in
theorem l1Var_any (v : Int) (w : World) (h0 : 0 ≤ v) (h1 : v < 4) : Calls Try.prog 75 #[.int .i64 v] w fun e w' => ∃ p c, e = .returned (.agg #[.slice p 4 c, .int .i64 0]) ∧ IntsOwn w.heap.size w' (.slice p 4 c) (unitL v) ∧ Ext w w' := by
  go_enter Try.func75, Try.ntmps75
  go_wp2_with (fail)
  refine (l1Zero_any _).mono ?_
  rintro e W1 ⟨p, c, rfl, hv, hE⟩
  have E1 : Hid (Ext w W1) := ((Ext.refl w).alloc _).trans hE
  obtain ⟨r0, r1, fr0, fr1⟩ := blk2 (hE.blk (g := w.heap.size) (blk_at rfl))
  have hlt := World.block_lt_of_cell? W1 _ r0
  obtain ⟨g, rfl, hg0, hg1, hcell, hfr, hset⟩ := hv.opened rfl (by omega)
  have hs := hset v.toNat 1
  obtain ⟨z, hz⟩ : ∃ z, [(0 : Int), 0, 0, 0][v.toNat]? = some z := get_some (by simp; omega)
  have hc := hcell v.toNat z hz
  have hf := hfr v.toNat
  have hgw : w.heap.size + 1 ≤ g := by simpa using hg0
  have HS : Hid (IntsOwn (w.heap.size + 1) (W1.setCell ⟨g, v.toNat, none⟩ (.int .i64 1)) (.slice (some ⟨g, 0, none⟩) 4 c) (unitL v)) := hs.weak (by simp)
  clear hv hE hcell hfr hset hs hz hg0
  obtain ⟨n, rfl⟩ := Int.eq_ofNat_of_zero_le h0
  rw [Int.toNat_natCast] at hc hf HS
  go_wp2
  refine bodyPost_ret (v := .agg #[.slice (some ⟨g, 0, none⟩) 4 c, .int .i64 0]) (by simp [results, Try.results75, go_sem, r0, r1, hlt]) rfl ⟨_, _, rfl, IntsOwn.weak (B := w.heap.size + 1) ?_ (by omega), ?_⟩
  · exact (((HS.out.setAt (by omega) _).setAt (by omega) _).ext ((Ext.refl _).alloc _))
  · exact (((E1.out.setAt (by omega) _).setAt (by omega) _).setAt (by omega) _).alloc _

theorem unitL_len (v : Int) : (unitL v).length = 4 := by simp [unitL]

end Go.Proofs.Ytccibfldadflkaa
