/- The texts N2, joined. No statement is proved here. -/
import Derived.Test.YtccibfldadflkaaQS10
/- Contracts of the laws' own helpers for lists of expressions and nests: copies. -/
namespace Go.Proofs.Ytccibfldadflkaa
open Go.RowKit

/-- A row of pairs, of the call's own, with what is behind its elements (from block B on, too). -/
def PairsOwn {α : Type} (T : TypeId) (R : Nat → World → Value → Value → α → Prop) (B : Nat) (w : World) (v : Value) (xs : List α) : Prop :=
  ∃ vs, w.ownsRow B T 2 v xs.length vs ∧ ∀ i x, xs[i]? = some x → ∃ u0 u1, vs[i * 2]? = some u0 ∧ vs[i * 2 + 1]? = some u1 ∧ R B w u0 u1 x

def AffO (B : Nat) (w : World) (u0 u1 : Value) (a : Aff) : Prop := IntsOwn B w u0 a.1 ∧ u1 = .int .i64 a.2
def AffsOwn : Nat → World → Value → List Aff → Prop := PairsOwn 36 AffO
def LoopO (B : Nat) (w : World) (u0 u1 : Value) (a : Lp) : Prop := AffsOwn B w u0 a.1 ∧ AffsOwn B w u1 a.2
def LoopsOwn : Nat → World → Value → List Lp → Prop := PairsOwn 75 LoopO

theorem PairsOwn.at' {α : Type} {T : TypeId} {R : Nat → World → Value → Value → α → Prop} {Q : World → Value → Value → α → Prop} (hq : ∀ {B w u0 u1 x}, R B w u0 u1 x → Q w u0 u1 x) {B : Nat} {w : World} {v : Value} {xs : List α} (h : PairsOwn T R B w v xs) : PairsAt Q w v xs := by
  obtain ⟨vs, ho, hr⟩ := h
  rcases ho.2 with ⟨rfl, hn⟩ | ⟨g, cap, cur, rfl, _⟩
  · refine ⟨none, 0, by rw [hn], by omega, fun i x hi => ?_⟩
    rw [List.eq_nil_of_length_eq_zero hn] at hi; simp at hi
  · refine PairsAt.own ho rfl (fun i x hi => ?_)
    obtain ⟨u0, u1, h0, h1, h2⟩ := hr i x hi
    exact ⟨u0, u1, h0, h1, hq h2⟩
theorem PairsOwn.map' {α : Type} {T : TypeId} {R : Nat → World → Value → Value → α → Prop} {B B' : Nat} {w w' : World} {v : Value} {xs : List α} (h : PairsOwn T R B w v xs) (ho : ∀ vs, w.ownsRow B T 2 v xs.length vs → w'.ownsRow B' T 2 v xs.length vs) (hR : ∀ {u0 u1 x}, R B w u0 u1 x → R B' w' u0 u1 x) : PairsOwn T R B' w' v xs := by
  obtain ⟨vs, h1, hr⟩ := h
  refine ⟨vs, ho vs h1, fun i x hi => ?_⟩
  obtain ⟨u0, u1, h0, h1, h2⟩ := hr i x hi
  exact ⟨u0, u1, h0, h1, hR h2⟩

theorem AffsOwn.at {B : Nat} {w : World} {v : Value} {xs : List Aff} (h : AffsOwn B w v xs) : AffsAt w v xs := PairsOwn.at' (fun h => ⟨h.1.at, h.2⟩) h
theorem LoopsOwn.at {B : Nat} {w : World} {v : Value} {xs : List Lp} (h : LoopsOwn B w v xs) : LoopsAt w v xs := PairsOwn.at' (fun h => ⟨h.1.at, h.2.at⟩) h
theorem AffsOwn.ext {B : Nat} {w w' : World} {v : Value} {xs : List Aff} (h : AffsOwn B w v xs) (hb : Ext w w') : AffsOwn B w' v xs := PairsOwn.map' h (fun _ h => ownsRow_ext h hb) (fun h => ⟨h.1.ext hb, h.2⟩)
theorem LoopsOwn.ext {B : Nat} {w w' : World} {v : Value} {xs : List Lp} (h : LoopsOwn B w v xs) (hb : Ext w w') : LoopsOwn B w' v xs := PairsOwn.map' h (fun _ h => ownsRow_ext h hb) (fun h => ⟨h.1.ext hb, h.2.ext hb⟩)
theorem AffsOwn.weak {B B' : Nat} {w : World} {v : Value} {xs : List Aff} (h : AffsOwn B w v xs) (hB : B' ≤ B) : AffsOwn B' w v xs := PairsOwn.map' h (fun _ h => ownsRow_weak h hB) (fun h => ⟨h.1.weak hB, h.2⟩)
theorem LoopsOwn.weak {B B' : Nat} {w : World} {v : Value} {xs : List Lp} (h : LoopsOwn B w v xs) (hB : B' ≤ B) : LoopsOwn B' w v xs := PairsOwn.map' h (fun _ h => ownsRow_weak h hB) (fun h => ⟨h.1.weak hB, h.2.weak hB⟩)
theorem AffsOwn.setOld {B : Nat} {w : World} {v : Value} {xs : List Aff} (h : AffsOwn B w v xs) {p : Addr} (hp : p.block < B) (u : Value) : AffsOwn B (w.setCell p u) v xs := PairsOwn.map' h (fun _ h => ownsRow_setCell_below h hp u) (fun h => ⟨h.1.setOld hp u, h.2⟩)
theorem LoopsOwn.setOld {B : Nat} {w : World} {v : Value} {xs : List Lp} (h : LoopsOwn B w v xs) {p : Addr} (hp : p.block < B) (u : Value) : LoopsOwn B (w.setCell p u) v xs := PairsOwn.map' h (fun _ h => ownsRow_setCell_below h hp u) (fun h => ⟨h.1.setOld hp u, h.2.setOld hp u⟩)

/-- The first k elements of a row of n pairs are written. -/
def PairRow {α : Type} (T : TypeId) (R : Nat → World → Value → Value → α → Prop) (B Bi g n : Nat) (xs : List α) (k : Nat) (w : World) : Prop :=
  ∃ vs, w.ownsRow B T 2 (.slice (some ⟨g, 0, none⟩) n n) n vs ∧ ∀ i x, i < k → xs[i]? = some x → ∃ u0 u1, vs[i * 2]? = some u0 ∧ vs[i * 2 + 1]? = some u1 ∧ R Bi w u0 u1 x

theorem PairRow.open' {α : Type} {T : TypeId} {R : Nat → World → Value → Value → α → Prop} {B Bi g n k : Nat} {xs : List α} {w w1 : World} (h : PairRow T R B Bi g n xs k w) (hE : Ext w w1) (hk : k < n) :
    w1.frozen? ⟨g, k * 2, none⟩ = false ∧ w1.frozen? ⟨g, k * 2 + 1, none⟩ = false ∧ (∃ v, w1.cell? ⟨g, k * 2, none⟩ = some v) ∧ (∃ v, w1.cell? ⟨g, k * 2 + 1, none⟩ = some v) ∧ B ≤ g ∧ g < w1.heap.size := by
  obtain ⟨vs, ho, _⟩ := h
  have ho := ownsRow_ext ho hE
  have hl := ho.1
  have := ho.lt g rfl
  refine ⟨ho.frozenAt _, ho.frozenAt _, ?_, ?_, this.1, this.2⟩
  · rw [ho.cellAt (k * 2) (by omega)]; exact get_some (by omega)
  · rw [ho.cellAt (k * 2 + 1) (by omega)]; exact get_some (by omega)

theorem PairRow.step {α : Type} {T : TypeId} {R : Nat → World → Value → Value → α → Prop} (hext : ∀ {B w w' u0 u1 x}, R B w u0 u1 x → Ext w w' → R B w' u0 u1 x) (hset : ∀ {B w u0 u1 x p u}, R B w u0 u1 x → Addr.block p < B → R B (w.setCell p u) u0 u1 x)
    {B g n k : Nat} {xs : List α} {w w1 : World} {u0 u1 : Value} {x : α} (h : PairRow T R B (g + 1) g n xs k w) (hE : Ext w w1) (hk : k < n) (hx : xs[k]? = some x) (hr : R (g + 1) w1 u0 u1 x) :
    PairRow T R B (g + 1) g n xs (k + 1) ((w1.setCell ⟨g, k * 2, none⟩ u0).setCell ⟨g, k * 2 + 1, none⟩ u1) := by
  obtain ⟨vs, ho, hv⟩ := h
  have ho := ownsRow_ext ho hE
  have hl := ho.1
  refine ⟨_, (((ho.stored (k * 2) u0).1).stored (k * 2 + 1) u1).1, fun i y hi hy => ?_⟩
  by_cases e : i = k
  · subst e
    rw [hx] at hy; cases hy
    refine ⟨u0, u1, ?_, ?_, hset (hset hr (by simp)) (by simp)⟩
    · rw [List.getElem?_set_ne (by omega), List.getElem?_set_self (by omega)]
    · rw [List.getElem?_set_self (by rw [List.length_set]; omega)]
  · obtain ⟨a0, a1, h0, h1, h2⟩ := hv i y (by omega) hy
    refine ⟨a0, a1, ?_, ?_, hset (hset (hext h2 hE) (by simp)) (by simp)⟩
    · rw [List.getElem?_set_ne (by omega), List.getElem?_set_ne (by omega)]; exact h0
    · rw [List.getElem?_set_ne (by omega), List.getElem?_set_ne (by omega)]; exact h1

theorem PairRow.done {α : Type} {T : TypeId} {R : Nat → World → Value → Value → α → Prop} (hweak : ∀ {B B' w u0 u1 x}, R B w u0 u1 x → B' ≤ B → R B' w u0 u1 x) {B g n : Nat} {xs : List α} {w : World} (h : PairRow T R B (g + 1) g n xs n w) (hn : xs.length = n) (hB : B ≤ g) :
    PairsOwn T R B w (.slice (some ⟨g, 0, none⟩) n n) xs := by
  obtain ⟨vs, ho, hv⟩ := h
  refine ⟨vs, by rw [hn]; exact ho, fun i x hi => ?_⟩
  have hlt : i < n := by rw [← hn]; exact (List.getElem?_eq_some_iff.1 hi).1
  obtain ⟨u0, u1, h0, h1, h2⟩ := hv i x hlt hi
  exact ⟨u0, u1, h0, h1, hweak h2 (by omega)⟩

set_option maxHeartbeats 800000 in
theorem toAffineS_any (p : Option Addr) (n c : Nat) (zs : List Aff) (w : World) (hn : zs.length = n) (hs : AffsAt w (.slice p n c) zs) (hsm : SmallAs zs) :
    Calls Try.prog 70 #[.slice p n c] w fun e w' => ∃ q d, e = .returned (.slice q n d) ∧ AffsOwn w.heap.size w' (.slice q n d) zs ∧ Ext w w' := by
  have hm : n ≤ 1048576 := by rw [← hn]; exact hsm.1
  obtain ⟨i0, hi, hz0, hz1, hz2⟩ := info_parts infoAff
  have HS := Lib.hid hs; clear hs
  have HN := Lib.hid hn; clear hn
  have HSM := Lib.hid hsm; clear hsm
  go_enter Try.func70, Try.ntmps70
  go_wp2_with (at_make; refine wpList_make_full _ rfl _ _ 49 rfl w.heap.size 36 i0 (.agg #[.slice none 0 0, .int .i64 0]) 2 Try.underlying49 hi hz0 hz1 _ _ _ _ n rfl rfl rfl rfl ?b2 ?b3 (Nat.le_refl _) ?_)
  case b2 => rw [hz2]; omega
  case b3 => unfold maxLen; omega
  intro w0 hown0 hgrow0
  have HP := Lib.hid (show PairRow 36 AffO w.heap.size (w.heap.size + 1) w.heap.size n zs 0 w0 from ⟨_, hown0, fun i x hi => absurd hi (by omega)⟩)
  have HG := Lib.hid ((Ext.refl w).grown hgrow0 (fun k h => by cases h))
  clear hown0 hgrow0 hi hz0 hz1 hz2
  go_wp2
  go_loopw [4] (fun i wr => ∃ k : Nat, k ≤ n ∧ i = .int .i64 k ∧ PairRow 36 AffO w.heap.size (w.heap.size + 1) w.heap.size n zs k wr ∧ Ext w wr) (fun i _ => n - (intOf i).toNat)
  case atStart => exact ⟨0, by omega, rfl, HP.out, HG.out⟩
  case round =>
    obtain ⟨k, hk, rfl, hrow, hE⟩ := hrel
    by_cases hlt : k < n
    · obtain ⟨x, hx⟩ := get_some (xs := zs) (k := k) (by rw [HN.out]; exact hlt)
      obtain ⟨b, off, q, m, rfl, c0, c1, hb, hr⟩ := (HS.out.ext hE).elem hx
      have hxs := HSM.out.2 x (List.mem_of_getElem? hx)
      have HX := Lib.hid hx; have HR := Lib.hid hr; have HW := Lib.hid hrow; clear hx hr hrow
      go_wp2_with (fail)
      refine (toAffine_any _ x.1 x.2 _ HR.out hxs).mono ?_
      rintro e w1 ⟨q1, m1, rfl, hv, hE1⟩
      obtain ⟨f0, f1, ⟨v0, d0⟩, ⟨v1, d1⟩, hg0, hg1⟩ := HW.out.open' hE1 hlt
      have HV := Lib.hid (hv.weak (B' := w.heap.size + 1) (by have := HW.out.open' (Ext.refl wr) hlt; omega))
      have HE1 := Lib.hid hE1
      clear hv hE1 c0 c1
      go_wp2
      go_roundw
      case rel => exact ⟨k + 1, by omega, by go_num, PairRow.step (fun h hb => ⟨h.1.ext hb, h.2⟩) (fun h hp => ⟨h.1.setOld hp _, h.2⟩) HW.out HE1.out hlt HX.out ⟨HV.out, rfl⟩, ((hE.trans HE1.out).setCell (Nat.le_refl _) _).setCell (Nat.le_refl _) _⟩
      case measure => simp [intOf]; omega
    · go_wp2
      go_ret
      have e : k = n := by omega
      subst e
      exact ⟨_, _, rfl, PairRow.done (fun h hB => ⟨h.1.weak hB, h.2⟩) hrow HN.out (Nat.le_refl _), hE⟩
end Go.Proofs.Ytccibfldadflkaa
