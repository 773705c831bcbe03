/- The texts N1, joined. No statement is proved here. -/
import Derived.Test.YtccibfldadflkaaQS40
import Derived.Test.YtccibfldadflkaaQS45
/- Contracts of the laws' own helpers for lists of expressions and nests: sizes. -/
namespace Go.Proofs.Ytccibfldadflkaa
open Go.RowKit

/-- A list of expressions that is small enough to be copied. -/
def SmallAs (zs : List Aff) : Prop := zs.length ≤ 1048576 ∧ ∀ a ∈ zs, a.1.length ≤ 1048576
def SmallLs (ls : List Lp) : Prop := ls.length ≤ 1048576 ∧ ∀ l ∈ ls, SmallAs l.1 ∧ SmallAs l.2
theorem mem_take_next {α : Type} {p : α → Prop} {xs : List α} {k : Nat} {x : α} (hx : xs[k]? = some x) (h : ∀ a ∈ xs.take k, p a) (h2 : p x) : ∀ a ∈ xs.take (k + 1), p a := by
  intro a ha
  rw [take_next hx, List.mem_append] at ha
  rcases ha with ha | ha
  · exact h a ha
  · rw [List.mem_singleton] at ha; subst ha; exact h2

set_option maxHeartbeats 800000 in
theorem szAffineS_any (p : Option Addr) (n c : Nat) (zs : List Aff) (left : Int) (w : World) (hn : zs.length = n) (hs : AffsAt w (.slice p n c) zs) (h0 : 0 ≤ left) (h1 : left ≤ 1048576) :
    Calls Try.prog 65 #[.slice p n c, .int .i64 left] w fun e w' => (∃ z : Int, e = .returned (.int .i64 z) ∧ (z = -1 ∨ (0 ≤ z ∧ z ≤ 1048576 ∧ SmallAs zs))) ∧ Ext w w' := by
  have hm : n ≤ 9223372036854775807 := by obtain ⟨_, _, hv, hm, _⟩ := hs; rw [← hn]; exact hm
  have HS := Lib.hid hs; clear hs
  have HN := Lib.hid hn; clear hn
  by_cases hsm : left - n < 0
  · go_enter Try.func65, Try.ntmps65
    go_wp2
    go_ret
    exact ⟨⟨-1, rfl, .inl rfl⟩, Ext.refl w⟩
  · go_enter Try.func65, Try.ntmps65
    go_wp2
    go_loopw [1, 5] (fun l i wr => ∃ k : Nat, k ≤ n ∧ i = .int .i64 k ∧ (∃ z : Int, l = .int .i64 z ∧ 0 ≤ z ∧ z ≤ 1048576) ∧ (∀ a ∈ zs.take k, a.1.length ≤ 1048576) ∧ Ext w wr) (fun _ i _ => n - (intOf i).toNat)
    case atStart => exact ⟨0, by omega, rfl, ⟨_, rfl, by omega, by omega⟩, by simp, Ext.refl w⟩
    case round =>
      obtain ⟨k, hk, rfl, ⟨z, rfl, hz0, hz1⟩, hall, hE⟩ := hrel
      have HA := Lib.hid hall; clear hall
      by_cases hlt : k < n
      · obtain ⟨x, hx⟩ := get_some (xs := zs) (k := k) (by rw [HN.out]; exact hlt)
        obtain ⟨b, off, q, m, rfl, c0, c1, hb, hr⟩ := (HS.out.ext hE).elem hx
        have hxm : x.1.length ≤ 9223372036854775807 := by obtain ⟨_, _, hv, hm, _⟩ := hr; exact hm
        have HX := Lib.hid hx; clear hx hr
        have hbd : szI z x.1.length < 0 → szI z x.1.length = -1 := by unfold szI; split <;> omega
        have hbd2 : ¬ szI z x.1.length < 0 → 0 ≤ szI z x.1.length ∧ szI z x.1.length ≤ 1048576 ∧ x.1.length ≤ 1048576 := by unfold szI; split <;> omega
        have HB := Lib.hid hbd; have HB2 := Lib.hid hbd2; clear hbd hbd2
        have hrng : -1 ≤ szI z x.1.length ∧ szI z x.1.length ≤ 1048576 := by unfold szI; split <;> omega
        go_wp2_with (go_at_call 12; refine (szAffine_any _ _ _ _ _ _ hxm hz0 hz1).mono ?_; rintro e w' ⟨rfl, hE2⟩)
        · have h : szI z x.1.length < 0 := by assumption
          go_ret
          exact ⟨⟨-1, rfl, .inl rfl⟩, hE.trans hE2⟩
        · have h : 0 ≤ szI z x.1.length := by assumption
          obtain ⟨q0, q1, q2⟩ := HB2.out h
          go_roundw
          case rel => exact ⟨k + 1, by omega, by go_num, ⟨_, rfl, q0, q1⟩, mem_take_next HX.out HA.out q2, hE.trans hE2⟩
          case measure => simp [intOf]; omega
      · have e : k = n := by omega
        subst e
        go_wp2
        go_ret
        refine ⟨⟨z, rfl, .inr ⟨hz0, hz1, by rw [HN.out]; omega, ?_⟩⟩, hE⟩
        have h := HA.out
        rwa [List.take_of_length_le (by rw [HN.out]; omega)] at h

set_option maxHeartbeats 800000 in
theorem szLoop_any (s t : Value) (x : Lp) (left : Int) (w : World) (hs : AffsAt w s x.1) (ht : AffsAt w t x.2) (h0 : 0 ≤ left) (h1 : left ≤ 1048576) :
    Calls Try.prog 32 #[.agg #[s, t], .int .i64 left] w fun e w' => (∃ z : Int, e = .returned (.int .i64 z) ∧ (z = -1 ∨ (0 ≤ z ∧ z ≤ 1048576 ∧ SmallAs x.1 ∧ SmallAs x.2))) ∧ Ext w w' := by
  obtain ⟨p, c, rfl, hm⟩ := hs.form
  obtain ⟨q, d, rfl, hm2⟩ := ht.form
  have HS := Lib.hid hs; have HT := Lib.hid ht; clear hs ht
  go_enter Try.func32, Try.ntmps32
  go_wp2_with (fail)
  refine (szAffineS_any p _ c x.1 left _ rfl (HS.out.ext ((Ext.refl w).alloc _)) h0 h1).mono ?_
  rintro e W1 ⟨⟨z, rfl, hz⟩, hE⟩
  have E1 : Hid (Ext w W1) := ((Ext.refl w).alloc _).trans hE
  obtain ⟨c0, c1, -, -⟩ := blk2 (hE.blk (g := w.heap.size) (blk_at rfl))
  clear hE
  rcases hz with rfl | ⟨z0, z1, hz⟩
  · go_wp2_with (fail)
    go_ret
    exact ⟨⟨-1, rfl, .inl rfl⟩, E1.out⟩
  · have HZ := Lib.hid hz; clear hz
    go_wp2_with (fail)
    refine (szAffineS_any q _ d x.2 z _ rfl (HT.out.ext E1.out) z0 z1).mono ?_
    rintro e W2 ⟨⟨y, rfl, hy⟩, hE⟩
    have E2 : Hid (Ext w W2) := E1.out.trans hE
    clear hE c0 c1
    rcases hy with rfl | ⟨y0, y1, hy⟩
    · go_wp2_with (fail)
      go_ret
      exact ⟨⟨-1, rfl, .inl rfl⟩, E2.out⟩
    · have HY := Lib.hid hy; clear hy
      go_wp2_with (fail)
      go_ret
      exact ⟨⟨y, rfl, .inr ⟨y0, y1, HZ.out, HY.out⟩⟩, E2.out⟩

set_option maxHeartbeats 800000 in
theorem szLoopS_any (p : Option Addr) (n c : Nat) (ls : List Lp) (left : Int) (w : World) (hn : ls.length = n) (hs : LoopsAt w (.slice p n c) ls) (h0 : 0 ≤ left) (h1 : left ≤ 1048576) :
    Calls Try.prog 11 #[.slice p n c, .int .i64 left] w fun e w' => (∃ z : Int, e = .returned (.int .i64 z) ∧ (z = -1 ∨ (0 ≤ z ∧ z ≤ 1048576 ∧ SmallLs ls))) ∧ Ext w w' := by
  have hm : n ≤ 9223372036854775807 := by obtain ⟨_, _, hv, hm, _⟩ := hs; rw [← hn]; exact hm
  have HS := Lib.hid hs; clear hs
  have HN := Lib.hid hn; clear hn
  by_cases hsm : left - n < 0
  · go_enter Try.func11, Try.ntmps11
    go_wp2
    go_ret
    exact ⟨⟨-1, rfl, .inl rfl⟩, Ext.refl w⟩
  · go_enter Try.func11, Try.ntmps11
    go_wp2
    go_loopw [1, 5] (fun l i wr => ∃ k : Nat, k ≤ n ∧ i = .int .i64 k ∧ (∃ z : Int, l = .int .i64 z ∧ 0 ≤ z ∧ z ≤ 1048576) ∧ (∀ a ∈ ls.take k, SmallAs a.1 ∧ SmallAs a.2) ∧ Ext w wr) (fun _ i _ => n - (intOf i).toNat)
    case atStart => exact ⟨0, by omega, rfl, ⟨_, rfl, by omega, by omega⟩, by simp, Ext.refl w⟩
    case round =>
      obtain ⟨k, hk, rfl, ⟨z, rfl, hz0, hz1⟩, hall, hE⟩ := hrel
      have HA := Lib.hid hall; clear hall
      by_cases hlt : k < n
      · obtain ⟨x, hx⟩ := get_some (xs := ls) (k := k) (by rw [HN.out]; exact hlt)
        obtain ⟨b, off, q, m, q', m', rfl, c0, c1, hb, hr, hr'⟩ := (HS.out.ext hE).elem hx
        have HX := Lib.hid hx; have HR := Lib.hid hr; have HR' := Lib.hid hr'; clear hx hr hr'
        go_wp2_with (fail)
        refine (szLoop_any _ _ x z _ HR.out HR'.out hz0 hz1).mono ?_
        rintro e w' ⟨⟨y, rfl, hy⟩, hE2⟩
        rcases hy with rfl | ⟨y0, y1, hy⟩
        · go_wp2_with (fail)
          go_ret
          exact ⟨⟨-1, rfl, .inl rfl⟩, hE.trans hE2⟩
        · have HY := Lib.hid hy; clear hy
          go_wp2_with (fail)
          go_roundw
          case rel => exact ⟨k + 1, by omega, by go_num, ⟨_, rfl, y0, y1⟩, mem_take_next HX.out HA.out HY.out, hE.trans hE2⟩
          case measure => simp [intOf]; omega
      · have e : k = n := by omega
        subst e
        go_wp2
        go_ret
        refine ⟨⟨z, rfl, .inr ⟨hz0, hz1, by rw [HN.out]; omega, ?_⟩⟩, hE⟩
        have h := HA.out
        rwa [List.take_of_length_le (by rw [HN.out]; omega)] at h
end Go.Proofs.Ytccibfldadflkaa
